import Derived.Test.YtjgkacggjhobmaaGreatDoorLyPkQ
import Derived.Test.YtjgkacggjhobmaaGreatDoorLyPkB
import Derived.Test.YtjgkacggjhobmaaGreatDoorLyPkO
import Derived.Deep.AppendLies
set_option maxRecDepth 100000
set_option maxHeartbeats 25600000
set_option linter.unusedSimpArgs false
set_option linter.unusedVariables false
namespace Go.Proofs.YtjgkacggjhobmaaGreatDoor.Lx
open Go.RowKit
structure Sh where
 kind:Int
 text:ByteArray
 suf:ByteArray
 num:Int
 hex:Bool
def Tk.sh (t:Tk):Sh:=⟨t.kind,t.text,t.suf,t.num,t.hex⟩
def tx (l:List UInt8):ByteArray:=⟨⟨l⟩⟩
def wd (l:List UInt8):Sh:=⟨2,tx l,⟨#[]⟩,0,false⟩
def nm (l:List UInt8):Sh:=⟨1,tx l,⟨#[]⟩,0,false⟩
def sg (c:UInt8):Sh:=⟨5,tx [c],⟨#[]⟩,0,false⟩
def nu (l:List UInt8) (n:Int):Sh:=⟨3,tx l,⟨#[]⟩,n,false⟩
def Rd (l:List UInt8) (ss:List Sh) (l':List UInt8):Prop :=
 ∀ i,∃ ts i',ts.map Tk.sh=ss∧∀ (f m:Nat) (acc:List Tk),m+ts.length≤6000→toksL (f+ts.length) l i m acc=toksL f l' i' (m+ts.length) (acc++ts)
theorem Rd.nil (l:List UInt8):Rd l [] l:=fun i=>⟨[],i,rfl,fun f m acc _=>by simp⟩
theorem Rd.trans {l l' l'':List UInt8} {ss us:List Sh} (h1:Rd l ss l') (h2:Rd l' us l''):Rd l (ss++us) l'':=fun i=>by
 obtain ⟨ts,i',e1,g1⟩:=h1 i;obtain ⟨vs,i'',e2,g2⟩:=h2 i';refine ⟨ts++vs,i'',by rw [List.map_append,e1,e2],fun f m acc hm=>?_⟩;rw [List.length_append] at hm ⊢;rw [show f+(ts.length+vs.length)=(f+vs.length)+ts.length by omega,g1 _ _ _ (by omega),g2 _ _ _ (by omega),Nat.add_assoc,List.append_assoc]
theorem gap0 {b:UInt8} {t:List UInt8} {i:Nat} (hb:blankB (b.toNat:Int)=false) (h:(b.toNat:Int)≠47) (f:Nat):gapL f (b::t) i=(b::t,i,true):=by
 cases f with
 | zero=>rfl
 | succ f=>rw [gapL,if_neg (by rw [hb]; decide),if_neg (fun e=>h e.1),if_neg (fun e=>h e.1)]
theorem gap1 {b:UInt8} {t:List UInt8} {i:Nat} (hb:blankB (b.toNat:Int)=false) (h:(b.toNat:Int)≠47) (f:Nat):gapL (f+1) (32::b::t) i=(b::t,i+1,true):=by
 rw [gapL,if_pos (show blankB ((32:UInt8).toNat:Int)=true from rfl)]; exact gap0 hb h f
theorem Rd.one {b:UInt8} {u:List UInt8} (hb:blankB (b.toNat:Int)=false) (h47:(b.toNat:Int)≠47) {n:Nat} {kind num:Int} {suf:ByteArray} {hex:Bool}
    (h:∀ g,tokenL (b::u) g=⟨0,g+n,kind,suf,num,hex⟩):Rd (b::u) [⟨kind,cut (b::u) n,suf,num,hex⟩] ((b::u).drop n):=fun i =>
 ⟨[⟨kind,i,cut (b::u) n,suf,num,hex⟩],i+n,rfl,fun f m acc hm=>by
  have hm':m≠6000:=by have:m+1≤6000:=hm; omega
  show toksL (f+1) (b::u) i m acc=toksL f _ _ (m+1) _;rw [toksL,gap0 hb h47];simp only [h,ne_eq,not_true_eq_false,if_false,hm',Nat.add_sub_cancel_left]⟩
theorem Rd.sp {b:UInt8} {u l':List UInt8} {s:Sh} {ss:List Sh} (hb:blankB (b.toNat:Int)=false) (h47:(b.toNat:Int)≠47) (h:Rd (b::u) (s::ss) l'):Rd (32::b::u) (s::ss) l':=fun i=>by
 obtain ⟨ts,i',e,g⟩:=h (i+1);refine ⟨ts,i',e,fun f m acc hm=>?_⟩;rw [← g f m acc hm];cases ts with
 | nil=>cases e
 | cons t ts =>
   rw [show f+(t::ts).length=(f+ts.length)+1 by simp; omega];have e1:gapL ((32::b::u).length+i) (32::b::u) i=(b::u,i+1,true):=by
    rw [show (32::b::u).length+i=(u.length+1+i)+1 by simp; omega]; exact gap1 hb h47 _
   have e2:gapL ((b::u).length+(i+1)) (b::u) (i+1)=(b::u,i+1,true):=gap0 hb h47 _;rw [toksL,toksL,e1,e2]
theorem sc_app:∀ (w rest:List UInt8) (i:Nat),w.all (fun c=>inB (c.toNat:Int))=true→inB (hd rest)=false→sc nameL (w++rest) i=(rest,i+w.length)
 | [],rest,i,_,hr=>by
   cases rest with
   | nil=>rfl
   | cons b t =>
     show sc nameL (b::t) i=_;unfold sc;rw [if_neg (by unfold nameL; rw [hr]; decide)]; rfl
 | c::w,rest,i,ha,hr=>by
   rw [List.all_cons,Bool.and_eq_true] at ha;show sc nameL (c::(w++rest)) i=_;unfold sc;rw [if_pos (by unfold nameL hd; exact ha.1),sc_app w rest (i+1) ha.2 hr,List.length_cons]
   congr 1; omega
def nmB (w:List UInt8):Bool:=letB (hd w)&&(w.all (fun c=>inB (c.toNat:Int))&&decide (w.length≤30))
theorem Rd.word {w rest:List UInt8} (h:nmB w=true) (hr:inB (hd rest)=false):Rd (w++rest) [if wordL w=true then wd w else nm w] rest:=by
 unfold nmB at h;rw [Bool.and_eq_true,Bool.and_eq_true,decide_eq_true_eq] at h;obtain ⟨h1,h2,h3⟩:=h;cases w with
 | nil=>exact absurd h1 (by decide)
 | cons b t =>
   have hb:(97≤(b.toNat:Int)∧(b.toNat:Int)≤122∨65≤(b.toNat:Int)∧(b.toNat:Int)≤90∨(b.toNat:Int)=95):=(letB_iff _).1 h1;have hbl:blankB (b.toNat:Int)=false:=by
    cases e:blankB (b.toNat:Int) with
    | false=>rfl
    | true=>rw [blankB_iff] at e; omega
   have ht:(((b::t)++rest).take (b::t).length)=b::t:=by simp
   have hdp:(((b::t)++rest).drop (b::t).length)=rest:=by simp
   have hc:cut ((b::t)++rest) (b::t).length=tx (b::t):=by unfold cut tx; rw [ht]
   have hk:∀ g,tokenL ((b::t)++rest) g=⟨0,g+(b::t).length,if wordL (b::t)=true then 2 else 1,⟨#[]⟩,0,false⟩:=fun g=>by
    unfold tokenL;rw [if_pos (by exact h1)];simp only [sc_app (b::t) rest g h2 hr,Nat.add_sub_cancel_left,ht];rw [if_neg (by omega)];split <;> rfl
   have:=Rd.one (b:=b) (u:=t++rest) hbl (by omega) hk;rw [show b::(t++rest)=(b::t)++rest from rfl,hc,hdp] at this;have e:(if wordL (b::t)=true then wd (b::t) else nm (b::t))=⟨if wordL (b::t)=true then 2 else 1,tx (b::t),⟨#[]⟩,0,false⟩:=by split <;> rfl
   rw [e]; exact this
theorem Rd.spw {w rest:List UInt8} (h:nmB w=true) (hr:inB (hd rest)=false):Rd (32::(w++rest)) [if wordL w=true then wd w else nm w] rest:=by
 have h0:=Rd.word h hr;unfold nmB at h;rw [Bool.and_eq_true] at h;cases w with
 | nil=>exact absurd h.1 (by decide)
 | cons b t =>
   have hb:(97≤(b.toNat:Int)∧(b.toNat:Int)≤122∨65≤(b.toNat:Int)∧(b.toNat:Int)≤90∨(b.toNat:Int)=95):=(letB_iff _).1 h.1;refine Rd.sp ?_ (by omega) h0;cases e:blankB (b.toNat:Int) with
   | false=>rfl
   | true=>rw [blankB_iff] at e; omega
theorem Rd.sign {c:UInt8} {rest:List UInt8} (h1:letB (c.toNat:Int)=false) (h2:digB (c.toNat:Int)=false) (h3:(c.toNat:Int)≠39) (hb:blankB (c.toNat:Int)=false) (h47:(c.toNat:Int)≠47)
    (hs:signM (c.toNat:Int) (hd rest) (hd rest.tail)=1):Rd (c::rest) [sg c] rest:=by
 have hk:∀ g,tokenL (c::rest) g=⟨0,g+1,5,⟨#[]⟩,0,false⟩:=fun g=>by
  unfold tokenL;rw [if_neg (by show ¬ letB (c.toNat:Int)=true; rw [h1]; decide),if_neg (by show ¬ digB (c.toNat:Int)=true; rw [h2]; decide),if_neg (by exact h3)];have e:signM (hd (c::rest)) (hd (c::rest).tail) (hd (c::rest).tail.tail)=1:=hs;simp only [e];rw [if_neg (by decide)]
 exact Rd.one hb h47 hk
def sgB (c:UInt8):Bool:=decide (c=123∨c=125∨c=59∨c=91∨c=93)
theorem Rd.punct {c:UInt8} {rest:List UInt8} (h:sgB c=true):Rd (c::rest) [sg c] rest:=by
 unfold sgB at h;rw [decide_eq_true_eq] at h;rcases h with rfl | rfl | rfl | rfl | rfl <;> exact Rd.sign rfl rfl (by decide) rfl (by decide) rfl
theorem Rd.spunct {c:UInt8} {rest:List UInt8} (h:sgB c=true):Rd (32::c::rest) [sg c] rest:=by
 have h0:=Rd.punct (rest:=rest) h;unfold sgB at h;rw [decide_eq_true_eq] at h;rcases h with rfl | rfl | rfl | rfl | rfl <;> exact Rd.sp rfl (by decide) h0
theorem Rd.star {rest:List UInt8}:Rd (42::32::rest) [sg 42] (32::rest):=Rd.sign rfl rfl (by decide) rfl (by decide) rfl
def nB (n:Nat):List UInt8:=if n < 10 then [UInt8.ofNat (48+n)] else [UInt8.ofNat (48+n / 10),UInt8.ofNat (48+n % 10)]
theorem digit_nat {d:Nat} (h:d < 10):((UInt8.ofNat (48+d)).toNat:Int)=48+d:=by
 rw [UInt8.toNat_ofNat_of_lt' (by show 48+d < 256; omega)]; omega
theorem valB_digit {d:Nat} (h:d < 10):valB 10 (48+(d:Int))=d:=by
 unfold valB;rw [if_pos (by rw [digB_iff]; omega)]; omega
theorem Rd.number {n:Nat} {rest:List UInt8} (h0:1≤n) (h:n < 100):Rd (nB n++93::rest) [nu (nB n) n] (93::rest):=by
 have hv:valB 10 ((93:UInt8).toNat:Int)=-1:=rfl;by_cases h10:n < 10
 · have e0:nB n=[UInt8.ofNat (48+n)]:=if_pos h10;rw [e0];have hc:=digit_nat h10;have hk:∀ g,tokenL (UInt8.ofNat (48+n)::93::rest) g=⟨0,g+1,3,⟨#[]⟩,(n:Int),false⟩:=fun g=>by
    have hd0:hd (UInt8.ofNat (48+n)::93::rest)=48+(n:Int):=hc;have hl:letB (48+(n:Int))=false:=by
     cases e:letB (48+(n:Int)) with
     | false=>rfl
     | true=>rw [letB_iff] at e; omega
    have hD:digB (48+(n:Int))=true:=by rw [digB_iff]; omega
    unfold tokenL numL digML;rw [hd0,if_neg (by rw [hl]; decide),if_pos hD,if_neg (by omega),if_neg (by omega)];unfold digsL;rw [hc,valB_digit h10,if_pos (by omega)];unfold digsL;rw [hv,if_neg (by decide)];have em:((0:Int) * 10+(n:Int)) % 18446744073709551616=n:=by omega
    have eo:(true&&decide ((0:Int)≤(18446744073709551615 - (n:Int)) / 10))=true:=by
     rw [Bool.true_and,decide_eq_true_eq]; omega
    rw [em,eo];rfl
   have:=Rd.one (b:=UInt8.ofNat (48+n)) (u:=93::rest) (by
    cases e:blankB ((UInt8.ofNat (48+n)).toNat:Int) with
    | false=>rfl
    | true=>rw [blankB_iff] at e; omega) (by omega) hk
   exact this
 · have e0:nB n=[UInt8.ofNat (48+n / 10),UInt8.ofNat (48+n % 10)]:=if_neg h10;rw [e0];have h1:n / 10 < 10:=by omega
   have h2:n % 10 < 10:=by omega
   have hc:=digit_nat h1;have hc2:=digit_nat h2;have h1':1≤n / 10:=by omega
   have hn:(n:Int)=(n / 10:Nat) * 10+(n % 10:Nat):=by omega
   generalize n / 10=a at *;generalize n % 10=b at *;have hk:∀ g,tokenL (UInt8.ofNat (48+a)::UInt8.ofNat (48+b)::93::rest) g=⟨0,g+2,3,⟨#[]⟩,(n:Int),false⟩:=fun g=>by
    have hd0:hd (UInt8.ofNat (48+a)::UInt8.ofNat (48+b)::93::rest)=48+(a:Int):=hc;have hl:letB (48+(a:Int))=false:=by
     cases e:letB (48+(a:Int)) with
     | false=>rfl
     | true=>rw [letB_iff] at e; omega
    have hD:digB (48+(a:Int))=true:=by rw [digB_iff]; omega
    unfold tokenL numL digML;rw [hd0,if_neg (by rw [hl]; decide),if_pos hD,if_neg (by omega),if_neg (by omega)];unfold digsL;rw [hc,valB_digit h1,if_pos (by omega)];unfold digsL;rw [hc2,valB_digit h2,if_pos (by omega)];unfold digsL;rw [hv,if_neg (by decide)];have em:((((0:Int) * 10+(a:Int)) % 18446744073709551616) * 10+(b:Int)) % 18446744073709551616=n:=by omega
    have eo:((true&&decide ((0:Int)≤(18446744073709551615 - (a:Int)) / 10))&&decide (((0:Int) * 10+(a:Int)) % 18446744073709551616≤(18446744073709551615 - (b:Int)) / 10))=true:=by
     rw [Bool.true_and,Bool.and_eq_true,decide_eq_true_eq,decide_eq_true_eq]; omega
    rw [em,eo];rfl
   have:=Rd.one (b:=UInt8.ofNat (48+a)) (u:=UInt8.ofNat (48+b)::93::rest) (by
    cases e:blankB ((UInt8.ofNat (48+a)).toNat:Int) with
    | false=>rfl
    | true=>rw [blankB_iff] at e; omega) (by omega) hk
   exact this
def wB:Nat→List UInt8
 | 0=>[99,104,97,114]
 | 1=>[117,110,115,105,103,110,101,100,32,99,104,97,114]
 | 2=>[115,104,111,114,116]
 | 3=>[117,110,115,105,103,110,101,100,32,115,104,111,114,116]
 | 4=>[105,110,116]
 | 5=>[117,110,115,105,103,110,101,100]
 | 6=>[108,111,110,103]
 | 7=>[117,110,115,105,103,110,101,100,32,108,111,110,103]
 | 8=>[99,104,97,114,42]
 | 9=>[115,116,114,117,99,116,32,97,42]
 | _=>[115,116,114,117,99,116,32,97]
def wS:Nat→List Sh
 | 0=>[wd [99,104,97,114]]
 | 1=>[wd [117,110,115,105,103,110,101,100],wd [99,104,97,114]]
 | 2=>[wd [115,104,111,114,116]]
 | 3=>[wd [117,110,115,105,103,110,101,100],wd [115,104,111,114,116]]
 | 4=>[wd [105,110,116]]
 | 5=>[wd [117,110,115,105,103,110,101,100]]
 | 6=>[wd [108,111,110,103]]
 | 7=>[wd [117,110,115,105,103,110,101,100],wd [108,111,110,103]]
 | 8=>[wd [99,104,97,114],sg 42]
 | 9=>[wd [115,116,114,117,99,116],nm [97],sg 42]
 | _=>[wd [115,116,114,117,99,116],nm [97]]
theorem Rd.type (k:Nat) (rest:List UInt8):Rd (32::(wB k++32::rest)) (wS k) (32::rest):=by
 have u:∀ w rest,nmB w=true→wordL w=true→Rd (32::(w++32::rest)) [wd w] (32::rest):=fun w rest h1 h2=>by
  have:=Rd.spw (rest:=32::rest) h1 rfl;rwa [if_pos h2] at this
 have a:=fun rest (hr:inB (hd rest)=false)=>Rd.spw (w:=[97]) (rest:=rest) rfl hr
 match k with
 | 0=>exact u [99,104,97,114] rest rfl rfl
 | 1=>exact (u [117,110,115,105,103,110,101,100] _ rfl rfl).trans (u [99,104,97,114] rest rfl rfl)
 | 2=>exact u [115,104,111,114,116] rest rfl rfl
 | 3=>exact (u [117,110,115,105,103,110,101,100] _ rfl rfl).trans (u [115,104,111,114,116] rest rfl rfl)
 | 4=>exact u [105,110,116] rest rfl rfl
 | 5=>exact u [117,110,115,105,103,110,101,100] rest rfl rfl
 | 6=>exact u [108,111,110,103] rest rfl rfl
 | 7=>exact (u [117,110,115,105,103,110,101,100] _ rfl rfl).trans (u [108,111,110,103] rest rfl rfl)
 | 8=>exact (Rd.spw (w:=[99,104,97,114]) (rest:=42::32::rest) rfl rfl).trans Rd.star
 | 9=>exact (u [115,116,114,117,99,116] _ rfl rfl).trans ((a (42::32::rest) rfl).trans Rd.star)
 | n+10=>exact (u [115,116,114,117,99,116] _ rfl rfl).trans (a (32::rest) rfl)
structure Fld where
 k:Nat
 name:List UInt8
 num:Nat
def fB (f:Fld):List UInt8:=wB f.k++32::(f.name++((if f.num=0 then [] else 91::(nB f.num++[93]))++[59]))
def fS (f:Fld):List Sh:=wS f.k++([nm f.name]++((if f.num=0 then [] else [sg 91]++([nu (nB f.num) f.num]++[sg 93]))++[sg 59]))
def Fld.ok (f:Fld):Bool:=nmB f.name&&(!wordL f.name&&decide (f.num < 100))
theorem Rd.field {f:Fld} (h:f.ok=true) (rest:List UInt8):Rd (32::(fB f++rest)) (fS f) rest:=by
 obtain ⟨k,name,num⟩:=f;unfold Fld.ok at h;rw [Bool.and_eq_true,Bool.and_eq_true,decide_eq_true_eq] at h;obtain ⟨h1,h2,h3⟩:=h;have h2':¬ wordL name=true:=by simpa using h2
 have n1:∀ r,inB (hd r)=false→Rd (32::(name++r)) [nm name] r:=fun r hr=>by
  have:=Rd.spw h1 hr;rwa [if_neg h2'] at this
 unfold fB fS;simp only [List.append_assoc,List.cons_append];refine (Rd.type k _).trans ?_;by_cases h0:num=0
 · simp only [h0,if_pos];exact (n1 (59::rest) rfl).trans (Rd.punct rfl)
 · simp only [if_neg h0,List.cons_append,List.append_assoc,List.nil_append];refine (n1 (91::_) rfl).trans (Rd.trans (ss:=[sg 91]) (Rd.punct rfl) ?_);exact Rd.trans (ss:=[nu (nB num) num]) (Rd.number (by omega) h3) (Rd.trans (ss:=[sg 93]) (Rd.punct rfl) (Rd.punct rfl))
theorem Rd.fields:∀ {fs:List Fld} (h:fs.all Fld.ok=true) (rest:List UInt8),Rd (fs.flatMap (fun f=>32::fB f)++rest) (fs.flatMap fS) rest
 | [],_,rest=>Rd.nil rest
 | f::fs,h,rest=>by
   rw [List.all_cons,Bool.and_eq_true] at h;rw [List.flatMap_cons,List.flatMap_cons,List.append_assoc];exact (Rd.field h.1 _).trans (Rd.fields h.2 rest)
def stB (name:List UInt8) (fs:List Fld):List UInt8:=[115,116,114,117,99,116]++32::(name++32::123::(fs.flatMap (fun f=>32::fB f)++[32,125,59]))
def stS (name:List UInt8) (fs:List Fld):List Sh:=[wd [115,116,114,117,99,116]]++([nm name]++([sg 123]++(fs.flatMap fS++([sg 125]++[sg 59]))))
theorem Rd.struct {name:List UInt8} {fs:List Fld} (hn:nmB name=true) (hw:wordL name=false) (h:fs.all Fld.ok=true) (rest:List UInt8):Rd (stB name fs++rest) (stS name fs) rest:=by
 unfold stB stS;simp only [List.append_assoc,List.cons_append,List.nil_append];have h0:=Rd.word (w:=[115,116,114,117,99,116]) (rest:=32::(name++32::123::(fs.flatMap (fun f=>32::fB f)++32::125::59::rest))) rfl rfl;rw [if_pos (show wordL [115,116,114,117,99,116]=true from rfl)] at h0;have h1:=Rd.spw (rest:=32::123::(fs.flatMap (fun f=>32::fB f)++32::125::59::rest)) hn rfl;rw [if_neg (by rw [hw]; decide)] at h1;exact Rd.trans (ss:=[_]) h0 (Rd.trans (ss:=[_]) h1 (Rd.trans (ss:=[_]) (Rd.spunct rfl) (Rd.trans (Rd.fields h _) (Rd.trans (ss:=[_]) (Rd.spunct rfl) (Rd.punct rfl)))))
theorem Rd.sstruct {name:List UInt8} {fs:List Fld} (hn:nmB name=true) (hw:wordL name=false) (h:fs.all Fld.ok=true) (rest:List UInt8):Rd (32::(stB name fs++rest)) (stS name fs) rest :=
 Rd.sp (b:=115) rfl (by decide) (Rd.struct hn hw h rest)
theorem Rd.all {s:ByteArray} {ss:List Sh} (h:Rd s.data.toList ss []) (h1:ss.length≤6000) (h2:ss.length≤s.size) (h3:s.size≤20000):∃ ts,ts.map Tk.sh=ss∧tokensM s=⟨ts,0,0⟩:=by
 obtain ⟨ts,i',e,g⟩:=h 0;have hl:ts.length=ss.length:=by rw [← e,List.length_map]
 refine ⟨ts,e,?_⟩;rw [tokens_eq];unfold tokensL;rw [if_neg (by omega),show s.size+1=(s.size - ts.length+1)+ts.length by omega,g _ _ _ (by omega)];rw [toksL];have:gapL (([]:List UInt8).length+i') [] i'=([],i',true):=by cases i' <;> rfl
 rw [this];rfl
theorem word_len (k:Nat):(wS k).length≤(wB k).length:=by
 match k with
 | 0=>decide
 | 1=>decide
 | 2=>decide
 | 3=>decide
 | 4=>decide
 | 5=>decide
 | 6=>decide
 | 7=>decide
 | 8=>decide
 | 9=>decide
 | n+10=>exact (by decide:2≤8)
theorem word_most (k:Nat):(wB k).length≤14:=by
 match k with
 | 0=>decide
 | 1=>decide
 | 2=>decide
 | 3=>decide
 | 4=>decide
 | 5=>decide
 | 6=>decide
 | 7=>decide
 | 8=>decide
 | 9=>decide
 | n+10=>exact (by decide:8≤14)
theorem nB_len (n:Nat):1≤(nB n).length∧(nB n).length≤2:=by unfold nB; split <;> exact ⟨by simp,by simp⟩
theorem field_len {f:Fld} (h:f.ok=true):(fS f).length≤(fB f).length∧(fB f).length≤50:=by
 obtain ⟨k,name,num⟩:=f;unfold Fld.ok nmB at h;simp only [Bool.and_eq_true,decide_eq_true_eq] at h;obtain ⟨⟨h0,h1,h2⟩,h3⟩:=h;have h4:=word_len k;have h5:=word_most k;have h6:=nB_len num;have h7:1≤name.length:=by
  cases name with
  | nil=>exact absurd h0 (by decide)
  | cons b t=>simp
 unfold fS fB;by_cases e:num=0
 · simp [e]; omega
 · simp [e]; omega
theorem fields_len:∀ {fs:List Fld},fs.all Fld.ok=true→(fs.flatMap fS).length≤(fs.flatMap (fun f=>32::fB f)).length∧(fs.flatMap (fun f=>32::fB f)).length≤51 * fs.length
 | [],_=>⟨Nat.le_refl _,Nat.le_refl _⟩
 | f::fs,h=>by
   rw [List.all_cons,Bool.and_eq_true] at h;have h1:=field_len h.1;have h2:=fields_len h.2;simp only [List.flatMap_cons,List.length_append,List.length_cons];omega
theorem struct_len {name:List UInt8} {fs:List Fld} (hn:nmB name=true) (h:fs.all Fld.ok=true):(stS name fs).length≤(stB name fs).length∧(stB name fs).length≤51 * fs.length+50∧(stS name fs).length≤51 * fs.length+50:=by
 have h1:=fields_len h;unfold nmB at hn;simp only [Bool.and_eq_true,decide_eq_true_eq] at hn;unfold stS stB;simp only [List.length_append,List.length_cons,List.length_nil];omega
end Go.Proofs.YtjgkacggjhobmaaGreatDoor.Lx
namespace Go.Proofs.YtjgkacggjhobmaaGreatDoor.Sy
open Go.RowKit Lx
def tyK:Nat→Ty
 | 0=>⟨⟨#[105,56]⟩,0⟩
 | 1=>⟨⟨#[117,56]⟩,0⟩
 | 2=>⟨⟨#[105,49,54]⟩,0⟩
 | 3=>⟨⟨#[117,49,54]⟩,0⟩
 | 4=>⟨⟨#[105,51,50]⟩,0⟩
 | 5=>⟨⟨#[117,51,50]⟩,0⟩
 | 6=>⟨⟨#[105,54,52]⟩,0⟩
 | 7=>⟨⟨#[117,54,52]⟩,0⟩
 | 8=>⟨⟨#[105,56]⟩,1⟩
 | 9=>⟨⟨#[83,46,97]⟩,1⟩
 | _=>⟨⟨#[83,46,97]⟩,0⟩
section
variable {C:Cx} {p:Nat} {ty:List ByteArray} {c u:Int} {t x:Tk} {l rest:List Tk}
theorem pk_k {k:Nat} (h:C.T.drop p=l) (hk:l[k]?=some t):peekM C ⟨p,ty,c,u⟩ k=t:=by
 unfold peekM;have e:C.T[p+k]?=some t:=by rw [← hk,← h,List.getElem?_drop]
 rw [List.getD_eq_getElem?_getD];show (C.T[p+k]?).getD _=t;rw [e]; rfl
theorem pk_at (h:C.T.drop p=t::l):peekM C ⟨p,ty,c,u⟩ 0=t:=pk_k h rfl
theorem dr_lt (h:C.T.drop p=t::l):p < C.T.length:=by
 rcases Nat.lt_or_ge p C.T.length with e | e
 · exact e
 · rw [List.drop_eq_nil_of_le e] at h; cases h
theorem dr_tl (h:C.T.drop p=t::l):C.T.drop (p+1)=l:=by
 rw [← List.tail_drop,h]; rfl
theorem nx_at (h:C.T.drop p=t::l):nextM C ⟨p,ty,c,u⟩=⟨p+1,ty,c,u⟩:=by
 unfold nextM; rw [if_pos (dr_lt h)]
theorem txt_at (h:C.T.drop p=t::l):txt C ⟨p,ty,c,u⟩=t.text:=by unfold txt; rw [pk_at h]
theorem want_at (h:C.T.drop p=t::l) {s:ByteArray} (e:t.text=s):wantM C ⟨p,ty,c,u⟩ s=⟨p+1,ty,c,u⟩:=by
 unfold wantM isM;rw [txt_at h,e,if_pos (beq_self_eq_true s),nx_at h]
theorem stars0 (h:C.T.drop p=x::rest) (hx:(x.text==⟨#[42]⟩)=false) (f:Nat) (n:Int):starsM C f ⟨p,ty,c,u⟩ n=(n,⟨p,ty,c,u⟩):=by
 cases f with
 | zero=>rfl
 | succ f=>unfold starsM isM; rw [txt_at h,if_neg (by rw [hx]; decide)]
theorem stars1 (h:C.T.drop p=t::x::rest) (ht:t.text=⟨#[42]⟩) (hx:(x.text==⟨#[42]⟩)=false) (n:Int):starsM C C.T.length ⟨p,ty,c,u⟩ n=(n+1,⟨p+1,ty,c,u⟩):=by
 have:=dr_lt h;obtain ⟨f,hf⟩:∃ f,C.T.length=f+1:=⟨C.T.length - 1,by omega⟩;rw [hf];unfold starsM isM;rw [txt_at h,ht,if_pos (by rfl),nx_at h];exact stars0 (dr_tl h) hx f _
theorem typ_of {σ τ υ:St} {b:ByteArray} {m:Int} (ht:typedM C σ=true) (hb:baseM C σ=(b,τ)) (hs:starsM C C.T.length τ 0=(m,υ)):typM C σ=(⟨b,m⟩,υ):=by
 unfold typM; rw [if_pos ht,hb]; simp only [hs]
theorem typed_word (h:C.T.drop p=t::l) (ht:typeWord t.text=true):typedM C ⟨p,ty,c,u⟩=true:=by
 unfold typedM; rw [txt_at h,ht]; rfl
theorem base_one (h:C.T.drop p=t::l) {w b:ByteArray} (ht:t.text=w) (h1:(w==⟨#[118,111,105,100]⟩)=false) (h2:(w==⟨#[115,116,114,117,99,116]⟩)=false) (h3:(w==⟨#[117,110,115,105,103,110,101,100]⟩)=false)
    (h4:(bitsM w==nt)=false) (h5:⟨#[105]⟩++bitsM w=b):baseM C ⟨p,ty,c,u⟩=(b,⟨p+1,ty,c,u⟩):=by
 unfold baseM;simp only [txt_at h,nx_at h,ht,h1,h2,h3,h4,h5];rfl
theorem base_two (h:C.T.drop p=t::x::l) {w b:ByteArray} (ht:t.text=⟨#[117,110,115,105,103,110,101,100]⟩) (hx:x.text=w) (h4:(bitsM w==nt)=false) (h5:⟨#[117]⟩++bitsM w=b) :
    baseM C ⟨p,ty,c,u⟩=(b,⟨p+1+1,ty,c,u⟩):=by
 unfold baseM;simp only [txt_at h,nx_at h,ht,txt_at (dr_tl h),nx_at (dr_tl h),hx,h4,h5];rfl
theorem base_uns (h:C.T.drop p=t::x::l) (ht:t.text=⟨#[117,110,115,105,103,110,101,100]⟩) (h4:(bitsM x.text==nt)=true):baseM C ⟨p,ty,c,u⟩=(⟨#[117,51,50]⟩,⟨p+1,ty,c,u⟩):=by
 unfold baseM;simp only [txt_at h,nx_at h,ht,txt_at (dr_tl h),h4];rfl
theorem base_str (h:C.T.drop p=t::x::l) (ht:t.text=⟨#[115,116,114,117,99,116]⟩) (hk:x.kind=1) (hx:x.text=⟨#[97]⟩):baseM C ⟨p,ty,c,u⟩=(⟨#[83,46,97]⟩,⟨p+1+1,ty,c,u⟩):=by
 unfold baseM nameM;simp only [txt_at h,nx_at h,ht,pk_at (dr_tl h),hk,txt_at (dr_tl h),nx_at (dr_tl h),hx];rfl
end
theorem sh_text {t:Tk} {s:Sh} (h:t.sh=s):t.text=s.text:=congrArg Sh.text h
theorem sh_kind {t:Tk} {s:Sh} (h:t.sh=s):t.kind=s.kind:=congrArg Sh.kind h
theorem sh_suf {t:Tk} {s:Sh} (h:t.sh=s):t.suf=s.suf:=congrArg Sh.suf h
theorem sh_num {t:Tk} {s:Sh} (h:t.sh=s):t.num=s.num:=congrArg Sh.num h
theorem sh1 {ts:List Tk} {a:Sh} (h:ts.map Tk.sh=[a]):∃ t,ts=[t]∧t.sh=a:=by
 match ts,h with
 | [t],h=>injection h with h; exact ⟨t,rfl,h⟩
theorem sh_cons {ts:List Tk} {a:Sh} {l:List Sh} (h:ts.map Tk.sh=a::l):∃ t r,ts=t::r∧t.sh=a∧r.map Tk.sh=l:=by
 match ts,h with
 | t::r,h=>injection h with h1 h2; exact ⟨t,r,rfl,h1,h2⟩
theorem sh2 {ts:List Tk} {a b:Sh} (h:ts.map Tk.sh=[a,b]):∃ t r,ts=[t,r]∧t.sh=a∧r.sh=b:=by
 obtain ⟨t,r,rfl,h1,h2⟩:=sh_cons h;obtain ⟨r,rfl,h3⟩:=sh1 h2;exact ⟨t,r,rfl,h1,h3⟩
theorem sh3 {ts:List Tk} {a b d:Sh} (h:ts.map Tk.sh=[a,b,d]):∃ t r s,ts=[t,r,s]∧t.sh=a∧r.sh=b∧s.sh=d:=by
 obtain ⟨t,r,rfl,h1,h2⟩:=sh_cons h;obtain ⟨r,s,rfl,h3,h4⟩:=sh2 h2;exact ⟨t,r,s,rfl,h1,h3,h4⟩
theorem sh_app {ts:List Tk} {a b:List Sh} (h:ts.map Tk.sh=a++b):∃ t r,ts=t++r∧t.map Tk.sh=a∧r.map Tk.sh=b:=by
 obtain ⟨t,r,h1,h2,h3⟩:=List.map_eq_append_iff.1 h;exact ⟨t,r,h1,h2,h3⟩
theorem typ_at {C:Cx} {p:Nat} {ty:List ByteArray} {c u:Int} {x:Tk} {rest:List Tk} (k:Nat) {ts:List Tk} (hs:ts.map Tk.sh=wS k) (hx:(x.text==⟨#[42]⟩)=false) (hb:(bitsM x.text==nt)=true) (h:C.T.drop p=ts++x::rest) :
    typM C ⟨p,ty,c,u⟩=(tyK k,⟨p+ts.length,ty,c,u⟩):=by
 have one:∀ {t:Tk} {w b:ByteArray},C.T.drop p=t::x::rest→t.text=w→typeWord w=true→(w==⟨#[118,111,105,100]⟩)=false→(w==⟨#[115,116,114,117,99,116]⟩)=false→(w==⟨#[117,110,115,105,103,110,101,100]⟩)=false →
     (bitsM w==nt)=false→⟨#[105]⟩++bitsM w=b→typM C ⟨p,ty,c,u⟩=(⟨b,0⟩,⟨p+1,ty,c,u⟩):=fun h ht h0 h1 h2 h3 h4 h5 =>
  typ_of (typed_word h (by rw [ht]; exact h0)) (base_one h ht h1 h2 h3 h4 h5) (stars0 (dr_tl h) hx _ _)
 have two:∀ {t r:Tk} {w b:ByteArray},C.T.drop p=t::r::x::rest→t.text=⟨#[117,110,115,105,103,110,101,100]⟩→r.text=w→(bitsM w==nt)=false→⟨#[117]⟩++bitsM w=b→typM C ⟨p,ty,c,u⟩=(⟨b,0⟩,⟨p+2,ty,c,u⟩):=fun h ht hr h4 h5 =>
  typ_of (typed_word h (by rw [ht]; rfl)) (base_two h ht hr h4 h5) (stars0 (dr_tl (dr_tl h)) hx _ _)
 match k with
 | 0=>obtain ⟨t,rfl,e⟩:=sh1 hs; exact one h (sh_text e) rfl rfl rfl rfl rfl rfl
 | 1=>obtain ⟨t,r,rfl,e,e2⟩:=sh2 hs; exact two h (sh_text e) (sh_text e2) rfl rfl
 | 2=>obtain ⟨t,rfl,e⟩:=sh1 hs; exact one h (sh_text e) rfl rfl rfl rfl rfl rfl
 | 3=>obtain ⟨t,r,rfl,e,e2⟩:=sh2 hs; exact two h (sh_text e) (sh_text e2) rfl rfl
 | 4=>obtain ⟨t,rfl,e⟩:=sh1 hs; exact one h (sh_text e) rfl rfl rfl rfl rfl rfl
 | 5=>obtain ⟨t,rfl,e⟩:=sh1 hs; exact typ_of (typed_word h (by rw [sh_text e]; rfl)) (base_uns h (sh_text e) hb) (stars0 (dr_tl h) hx _ _)
 | 6=>obtain ⟨t,rfl,e⟩:=sh1 hs; exact one h (sh_text e) rfl rfl rfl rfl rfl rfl
 | 7=>obtain ⟨t,r,rfl,e,e2⟩:=sh2 hs; exact two h (sh_text e) (sh_text e2) rfl rfl
 | 8=>obtain ⟨t,r,rfl,e,e2⟩:=sh2 hs; exact typ_of (typed_word h (by rw [sh_text e]; rfl)) (base_one h (sh_text e) rfl rfl rfl rfl rfl) (stars1 (dr_tl h) (sh_text e2) hx 0)
 | 9=>obtain ⟨t,r,s,rfl,e,e2,e3⟩:=sh3 hs; exact typ_of (typed_word h (by rw [sh_text e]; rfl)) (base_str h (sh_text e) (sh_kind e2) (sh_text e2)) (stars1 (dr_tl (dr_tl h)) (sh_text e3) hx 0)
 | n+10=>obtain ⟨t,r,rfl,e,e2⟩:=sh2 hs; exact typ_of (typed_word h (by rw [sh_text e]; rfl)) (base_str h (sh_text e) (sh_kind e2) (sh_text e2)) (stars0 (dr_tl (dr_tl h)) hx _ _)
theorem typed_at {C:Cx} {p:Nat} {ty:List ByteArray} {c u:Int} {rest:List Tk} (k:Nat) {ts:List Tk} (hs:ts.map Tk.sh=wS k) (h:C.T.drop p=ts++rest):typedM C ⟨p,ty,c,u⟩=true:=by
 have g:∀ {t:Tk} {w:List UInt8} {l:List Tk},t.sh=wd w→C.T.drop p=t::l→typeWord (tx w)=true→typedM C ⟨p,ty,c,u⟩=true:=fun e h hw=>typed_word h (by rw [sh_text e]; exact hw)
 match k with
 | 0=>obtain ⟨t,rfl,e⟩:=sh1 hs; exact g e h rfl
 | 1=>obtain ⟨t,r,rfl,e,e2⟩:=sh2 hs; exact g e h rfl
 | 2=>obtain ⟨t,rfl,e⟩:=sh1 hs; exact g e h rfl
 | 3=>obtain ⟨t,r,rfl,e,e2⟩:=sh2 hs; exact g e h rfl
 | 4=>obtain ⟨t,rfl,e⟩:=sh1 hs; exact g e h rfl
 | 5=>obtain ⟨t,rfl,e⟩:=sh1 hs; exact g e h rfl
 | 6=>obtain ⟨t,rfl,e⟩:=sh1 hs; exact g e h rfl
 | 7=>obtain ⟨t,r,rfl,e,e2⟩:=sh2 hs; exact g e h rfl
 | 8=>obtain ⟨t,r,rfl,e,e2⟩:=sh2 hs; exact g e h rfl
 | 9=>obtain ⟨t,r,s,rfl,e,e2⟩:=sh3 hs; exact g e h rfl
 | n+10=>obtain ⟨t,r,rfl,e,e2⟩:=sh2 hs; exact g e h rfl
theorem tx_ne {w v:List UInt8} (h:w≠v):(tx w==tx v)=false:=beq_eq_false_iff_ne.2 (fun e=>h (Array.toList_inj.2 (congrArg ByteArray.data e)))
theorem name_not_star {w:List UInt8} (h:nmB w=true):(tx w==⟨#[42]⟩)=false:=tx_ne (v:=[42]) (fun e=>by subst e; exact absurd h (by decide))
theorem name_no_bits {w:List UInt8} (h:wordL w=false):(bitsM (tx w)==nt)=true:=by
 have g:∀ v:List UInt8,wordL v=true→(tx w==tx v)=false:=fun v hv=>tx_ne (fun e=>by subst e; rw [hv] at h; cases h)
 unfold bitsM;rw [if_neg (by rw [show (tx w==⟨#[99,104,97,114]⟩)=false from g [99,104,97,114] rfl]; decide),if_neg (by rw [show (tx w==⟨#[115,104,111,114,116]⟩)=false from g [115,104,111,114,116] rfl]; decide),
  if_neg (by rw [show (tx w==⟨#[105,110,116]⟩)=false from g [105,110,116] rfl]; decide),if_neg (by rw [show (tx w==⟨#[108,111,110,103]⟩)=false from g [108,111,110,103] rfl]; decide)]
 rfl
def vrF (f:Fld):Vr:=⟨tx f.name,tyK f.k,decide (f.num≠0),f.num⟩
theorem field_at {C:Cx} {p:Nat} {ty:List ByteArray} {c u:Int} {rest:List Tk} {f:Fld} (hf:f.ok=true) {ts:List Tk} (hs:ts.map Tk.sh=fS f) (h:C.T.drop p=ts++rest) :
    fieldM C ⟨p,ty,c,u⟩=(vrF f,⟨p+ts.length,ty,c,u⟩):=by
 obtain ⟨k,name,num⟩:=f;unfold Fld.ok at hf;rw [Bool.and_eq_true,Bool.and_eq_true,decide_eq_true_eq] at hf;obtain ⟨h1,h2,h3⟩:=hf;have h2':wordL name=false:=by simpa using h2
 unfold fS at hs;obtain ⟨tw,t2,rfl,hw,hs⟩:=sh_app hs;obtain ⟨x,t3,rfl,hx,hs⟩:=sh_cons hs;have ex:x.text=tx name:=sh_text hx;have hT:=typ_at (C:=C) (p:=p) (ty:=ty) (c:=c) (u:=u) (x:=x) (rest:=t3++rest) k hw (by rw [ex]; exact name_not_star h1) (by rw [ex]; exact name_no_bits h2') (by rw [h]; simp);have hd:C.T.drop (p+tw.length)=x::(t3++rest):=by
  rw [← List.drop_drop,h,List.append_assoc,List.drop_left]; rfl
 have hN:nameM C ⟨p+tw.length,ty,c,u⟩=(tx name,⟨p+tw.length+1,ty,c,u⟩):=by
  unfold nameM;rw [pk_at hd,if_pos (show x.kind=1 from sh_kind hx),txt_at hd,nx_at hd,ex]
 have hd2:=dr_tl hd;unfold fieldM;simp only [hT,hN];by_cases h0:num=0
 · subst h0;obtain ⟨s,rfl,e⟩:=sh1 (by simpa using hs);have hM:numberM C ⟨p+tw.length+1,ty,c,u⟩=(false,0,⟨p+tw.length+1,ty,c,u⟩):=by
    unfold numberM isM;rw [txt_at hd2,sh_text e,if_neg (by decide)]
   simp only [hM,want_at (s:=⟨#[59]⟩) hd2 (sh_text e)];simp [vrF,Nat.add_assoc]
 · rw [if_neg h0] at hs;obtain ⟨b,t4,rfl,eb,hs⟩:=sh_cons hs;obtain ⟨d,t5,rfl,ed,hs⟩:=sh_cons hs;obtain ⟨q,s,rfl,eq,es⟩:=sh2 hs;have hd3:=dr_tl hd2;have hd4:=dr_tl hd3;have hM:numberM C ⟨p+tw.length+1,ty,c,u⟩=(true,(num:Int),⟨p+tw.length+1+1+1+1,ty,c,u⟩):=by
    unfold numberM isM;rw [txt_at hd2,sh_text eb,if_pos (by rfl)];simp only [nx_at hd2,pk_at hd3,sh_kind ed,sh_suf ed,sh_num ed,nx_at hd3,want_at (s:=⟨#[93]⟩) hd4 (sh_text eq)];rfl
   simp only [hM,want_at (s:=⟨#[59]⟩) (dr_tl hd4) (sh_text es)];simp [vrF,h0,Nat.add_assoc]
theorem fields_at {C:Cx} {ty:List ByteArray} {c u:Int} {rest:List Tk}:∀ (fs:List Fld) (f:Fld) (p fu:Nat) (acc:List Vr) (ts:List Tk),(f::fs).all Fld.ok=true→ts.map Tk.sh=(f::fs).flatMap fS++[sg 125,sg 59]→C.T.drop p=ts++rest→fs.length < fu →
    fieldsM C fu ⟨p,ty,c,u⟩ acc=(acc++(f::fs).map vrF,⟨p+ts.length,ty,c,u⟩)
 | fs,f,p,0,acc,ts,hok,hs,h,hfu=>absurd hfu (Nat.not_lt_zero _)
 | [],f,p,fu+1,acc,ts,hok,hs,h,hfu=>by
   rw [List.all_cons,Bool.and_eq_true] at hok;rw [List.flatMap_cons,List.append_assoc] at hs;obtain ⟨t1,t2,rfl,h1,hs⟩:=sh_app hs;obtain ⟨a,b,rfl,ea,eb⟩:=sh2 hs;have hF:=field_at (C:=C) (p:=p) (ty:=ty) (c:=c) (u:=u) (rest:=[a,b]++rest) hok.1 h1 (by rw [h]; simp);have hd:C.T.drop (p+t1.length)=a::b::rest:=by
    rw [← List.drop_drop,h,List.append_assoc,List.drop_left]; rfl
   unfold fieldsM;simp only [hF];unfold isM;rw [txt_at hd,sh_text ea,if_pos (by rfl),nx_at hd,want_at (s:=⟨#[59]⟩) (dr_tl hd) (sh_text eb)];simp [Nat.add_assoc]
 | g::fs,f,p,fu+1,acc,ts,hok,hs,h,hfu=>by
   rw [List.all_cons,Bool.and_eq_true] at hok;rw [List.flatMap_cons,List.append_assoc] at hs;obtain ⟨t1,t2,rfl,h1,hs⟩:=sh_app hs;have hF:=field_at (C:=C) (p:=p) (ty:=ty) (c:=c) (u:=u) (rest:=t2++rest) hok.1 h1 (by rw [h]; simp);have hd:C.T.drop (p+t1.length)=t2++rest:=by
    rw [← List.drop_drop,h,List.append_assoc,List.drop_left]
   have ih:=fields_at (C:=C) (ty:=ty) (c:=c) (u:=u) (rest:=rest) fs g (p+t1.length) fu (acc++[vrF f]) t2 hok.2 hs hd (by simpa using hfu);have hs':=hs;rw [List.flatMap_cons,List.append_assoc] at hs';unfold fS at hs';rw [List.append_assoc] at hs';obtain ⟨tw,t3,rfl,hw,_⟩:=sh_app hs';have hty:=typed_at (C:=C) (p:=p+t1.length) (ty:=ty) (c:=c) (u:=u) (rest:=t3++rest) g.k hw (by rw [hd]; simp);have hnb:isM C ⟨p+t1.length,ty,c,u⟩ ⟨#[125]⟩=false:=by
    unfold typedM at hty;unfold isM;cases e:txt C ⟨p+t1.length,ty,c,u⟩==⟨#[125]⟩ with
    | false=>rfl
    | true =>
      exfalso;have e2:=beq_iff_eq.1 e;have hk:(peekM C ⟨p+t1.length,ty,c,u⟩ 0).kind=2:=by
       have g2:∀ {t:Tk} {w:List UInt8} {l:List Tk},t.sh=wd w→C.T.drop (p+t1.length)=t::l→(peekM C ⟨p+t1.length,ty,c,u⟩ 0).kind=2:=fun e h=>by rw [pk_at h]; exact sh_kind e
       have hd':C.T.drop (p+t1.length)=tw++(t3++rest):=by rw [hd]; simp
       match hk:g.k,hw with
       | 0,hw=>obtain ⟨t,rfl,e⟩:=sh1 hw; exact g2 e hd'
       | 1,hw=>obtain ⟨t,r,rfl,e,_⟩:=sh2 hw; exact g2 e hd'
       | 2,hw=>obtain ⟨t,rfl,e⟩:=sh1 hw; exact g2 e hd'
       | 3,hw=>obtain ⟨t,r,rfl,e,_⟩:=sh2 hw; exact g2 e hd'
       | 4,hw=>obtain ⟨t,rfl,e⟩:=sh1 hw; exact g2 e hd'
       | 5,hw=>obtain ⟨t,rfl,e⟩:=sh1 hw; exact g2 e hd'
       | 6,hw=>obtain ⟨t,rfl,e⟩:=sh1 hw; exact g2 e hd'
       | 7,hw=>obtain ⟨t,r,rfl,e,_⟩:=sh2 hw; exact g2 e hd'
       | 8,hw=>obtain ⟨t,r,rfl,e,_⟩:=sh2 hw; exact g2 e hd'
       | 9,hw=>obtain ⟨t,r,s,rfl,e,_⟩:=sh3 hw; exact g2 e hd'
       | n+10,hw=>obtain ⟨t,r,rfl,e,_⟩:=sh2 hw; exact g2 e hd'
      rw [e2,hk] at hty;exact absurd (show false=true from hty) (by decide)
   unfold fieldsM;simp only [hF];rw [if_neg (by rw [hnb]; decide),if_pos hty,ih];simp [Nat.add_assoc]
theorem struct_at {C:Cx} {p:Nat} {ty:List ByteArray} {c u:Int} {rest:List Tk} {name:List UInt8} {f:Fld} {fs:List Fld} (hok:(f::fs).all Fld.ok=true) {ts:List Tk} (hs:ts.map Tk.sh=stS name (f::fs)) (h:C.T.drop p=ts++rest) (hl:fs.length≤C.T.length) :
    ∃ a,itemM C ⟨p,ty,c,u⟩=(⟨1,a,⟨tx name,ty0,false,0⟩,(f::fs).map vrF,[],none,none,[],false⟩,⟨p+ts.length,ty,c,u⟩):=by
 unfold stS at hs;obtain ⟨t1,r,rfl,e1,hs⟩:=sh_cons hs;obtain ⟨t2,r,rfl,e2,hs⟩:=sh_cons hs;obtain ⟨t3,r,rfl,e3,hs⟩:=sh_cons hs;have hd2:=dr_tl h;have hd3:=dr_tl hd2;have hd4:=dr_tl hd3;refine ⟨(t1.at_:Int),?_⟩;unfold itemM;have i1:isM C ⟨p,ty,c,u⟩ ⟨#[115,116,114,117,99,116]⟩=true:=by unfold isM; rw [txt_at h,sh_text e1]; rfl
 have k1:peekM C ⟨p,ty,c,u⟩ 1=t2:=pk_k h rfl;have k2:peekM C ⟨p,ty,c,u⟩ 2=t3:=pk_k h rfl;simp only [i1,k1,k2,sh_kind e2,sh_text e3,pk_at h];rw [if_pos (by rfl)];unfold structM nameM;simp only [nx_at h,pk_at hd2,sh_kind e2,txt_at hd2,nx_at hd2,sh_text e2,want_at (s:=⟨#[123]⟩) hd3 (sh_text e3)];have hF:=fields_at (C:=C) (ty:=ty) (c:=c) (u:=u) (rest:=rest) fs f (p+1+1+1) (C.T.length+1) [] r hok (by rw [hs]; simp) hd4 (by omega);rw [if_pos (show (nm name).kind=1 from rfl)];have want3:wantM C ⟨p+1+1,ty,c,u⟩ ⟨#[123]⟩=⟨p+1+1+1,ty,c,u⟩:=want_at hd3 (sh_text e3);simp only [want3,hF];simp [it0,vr0,nm,Nat.add_assoc];omega
end Go.Proofs.YtjgkacggjhobmaaGreatDoor.Sy
namespace Go.Proofs.YtjgkacggjhobmaaGreatDoor.Sy
open Go.RowKit Lx
def itS (a:Int) (name:List UInt8) (fs:List Fld):It:=⟨1,a,⟨tx name,ty0,false,0⟩,fs.map vrF,[],none,none,[],false⟩
structure Gw (x y:Wr) (m:Int) (n:Nat):Prop where
 d:y.depth=x.depth
 m:y.most≤max x.most m
 s:y.out.size≤x.out.size+n
theorem part_up (s:ByteArray) (x:Wr):(partW s x).out.size≤x.out.size+(1+s.size):=by rw [part_size]; split <;> omega
theorem parts_up:∀ (l:List ByteArray) (x:Wr),(partsW l x).depth=x.depth∧(partsW l x).most=x.most∧(partsW l x).out.size≤x.out.size+(l.map (fun s=>1+s.size)).sum
 | [],x=>⟨rfl,rfl,Nat.le_refl _⟩
 | s::l,x=>by
   obtain ⟨h1,h2,h3⟩:=parts_up l (partW s x);have h4:=part_up s x;refine ⟨h1,h2,?_⟩;show (partsW l (partW s x)).out.size≤_;rw [List.map_cons,List.sum_cons]; omega
theorem open_up (l:List ByteArray) (x:Wr):(openP l x).depth=x.depth+1∧(openP l x).most=max x.most (x.depth+1)∧(openP l x).out.size≤x.out.size+(2+(l.map (fun s=>1+s.size)).sum):=by
 obtain ⟨h1,h2,h3⟩:=parts_up l (openW x);have h4:=part_up ⟨#[40]⟩ x;have h5:(openW x).out.size=(partW ⟨#[40]⟩ x).out.size:=rfl;have h6:(⟨#[40]⟩:ByteArray).size=1:=rfl;exact ⟨h1,h2,by show (partsW l (openW x)).out.size≤_; omega⟩
theorem decL_len:∀ (f n:Nat) (acc:List UInt8),(decL f n acc).length≤f+acc.length
 | 0,n,acc=>by unfold decL; omega
 | f+1,n,acc=>by
   unfold decL;split
   · simp; omega
   · have:=decL_len f (n / 10) (UInt8.ofNat (48+n % 10)::acc); simp only [List.length_cons] at this; omega
theorem decM_size (n:Int):(decM n).size≤20:=by
 have:=decL_len 20 n.toNat [];unfold decM ByteArray.size;simpa using this
theorem tyK_size (k:Nat):(tyM (tyK k)).size≤4∧(0≤(tyK k).stars∧(tyK k).stars≤1):=by
 match k with
 | 0=>decide
 | 1=>decide
 | 2=>decide
 | 3=>decide
 | 4=>decide
 | 5=>decide
 | 6=>decide
 | 7=>decide
 | 8=>decide
 | 9=>decide
 | n+10=>exact (by decide:(tyM (tyK 10)).size≤4∧(0≤(tyK 10).stars∧(tyK 10).stars≤1))
theorem name_size {w:List UInt8} (h:nmB w=true):(tx w).size≤30:=by
 unfold nmB at h;rw [Bool.and_eq_true,Bool.and_eq_true,decide_eq_true_eq] at h;exact h.2.2
theorem fld_up {f:Fld} (h:f.ok=true) (x:Wr):Gw x (fldF x (vrF f)) (x.depth+1) 70:=by
 obtain ⟨h1,h2,h3⟩:=open_up [tyM (tyK f.k),tx f.name,decM f.num] x;have h4:=tyK_size f.k;have h5:=decM_size f.num;unfold Fld.ok at h;rw [Bool.and_eq_true] at h;have h6:=name_size h.1;have e:fldF x (vrF f)=closeW (openP [tyM (tyK f.k),tx f.name,decM f.num] x):=rfl;rw [e];refine ⟨by show _ - 1=_; omega,by show (openP _ x).most≤_; omega,?_⟩;rw [close_size];simp at h3; omega
theorem flds_up:∀ {fs:List Fld},fs.all Fld.ok=true→∀ x:Wr,Gw x ((fs.map vrF).foldl fldF x) (x.depth+1) (70 * fs.length)
 | [],_,x=>⟨rfl,by show x.most≤_; omega,Nat.le_refl _⟩
 | f::fs,h,x=>by
   rw [List.all_cons,Bool.and_eq_true] at h;obtain ⟨a1,a2,a3⟩:=fld_up h.1 x;obtain ⟨b1,b2,b3⟩:=flds_up h.2 (fldF x (vrF f));rw [List.map_cons,List.foldl_cons,List.length_cons];exact ⟨b1.trans a1,by omega,by omega⟩
theorem it_up {name:List UInt8} {fs:List Fld} (hn:nmB name=true) (h:fs.all Fld.ok=true) (a:Int) (x:Wr):Gw x (itW (itS a name fs) x) (x.depth+2) (100+70 * fs.length):=by
 obtain ⟨h1,h2,h3⟩:=open_up [⟨#[115,116,114,117,99,116]⟩,tx name] x;have h4:=name_size hn;obtain ⟨b1,b2,b3⟩:=flds_up h (openP [⟨#[115,116,114,117,99,116]⟩,tx name] x);have e:itW (itS a name fs) x=closeW ((fs.map vrF).foldl fldF (openP [⟨#[115,116,114,117,99,116]⟩,tx name] x)):=rfl;rw [e];refine ⟨by show _ - 1=_; omega,by show (List.foldl fldF _ _).most≤_; omega,?_⟩;rw [close_size];have h6:(⟨#[115,116,114,117,99,116]⟩:ByteArray).size=6:=rfl;simp only [List.map_cons,List.map_nil,List.sum_cons,List.sum_nil] at h3;omega
theorem itS_ok {name:List UInt8} {fs:List Fld} (h:fs.all Fld.ok=true) (a:Int):okI (itS a name fs)=true:=by
 have hv:(fs.map vrF).all (fun v=>okN v.ty.stars v.num)=true:=by
  rw [List.all_eq_true] at h ⊢;intro v hv;obtain ⟨f,hf,rfl⟩:=List.mem_map.1 hv;have h1:=h f hf;unfold Fld.ok at h1;rw [Bool.and_eq_true,Bool.and_eq_true,decide_eq_true_eq] at h1;have h2:=(tyK_size f.k).2;show okN (tyK f.k).stars (f.num:Int)=true;unfold okN;rw [decide_eq_true_eq]; omega
 unfold okI itS;simp only [hv];rfl
theorem sh_tk {ts:List Tk} {ss:List Sh} (h:ts.map Tk.sh=ss) (hs:∀ s∈ss,s.text.size≤1000000∧s.suf.size≤1000000∧0≤s.num∧s.num≤18446744073709551615):ts.all tkOk=true:=by
 rw [List.all_eq_true];intro t ht;have:=hs t.sh (by rw [← h]; exact List.mem_map_of_mem ht);unfold tkOk;rw [decide_eq_true_eq];exact this
def ShOk (s:Sh):Prop:=s.text.size≤1000000∧s.suf.size≤1000000∧0≤s.num∧s.num≤18446744073709551615
theorem wS_ok (k:Nat):∀ s∈wS k,ShOk s:=by
 have g:∀ l:List Sh,l.all (fun s=>decide (s.text.size≤1000000∧s.suf.size≤1000000∧0≤s.num∧s.num≤18446744073709551615))=true→∀ s∈l,ShOk s:=fun l h s hs=>by
  have:=List.all_eq_true.1 h s hs;rwa [decide_eq_true_eq] at this
 match k with
 | 0=>exact g _ rfl
 | 1=>exact g _ rfl
 | 2=>exact g _ rfl
 | 3=>exact g _ rfl
 | 4=>exact g _ rfl
 | 5=>exact g _ rfl
 | 6=>exact g _ rfl
 | 7=>exact g _ rfl
 | 8=>exact g _ rfl
 | 9=>exact g _ rfl
 | n+10=>exact g (wS 10) rfl
theorem sg_ok (c:UInt8):ShOk (sg c):=⟨by show 1≤_; omega,by show 0≤_; omega,by show (0:Int)≤0; omega,by show (0:Int)≤_; omega⟩
theorem nm_ok {w:List UInt8} (h:nmB w=true):ShOk (nm w):=⟨by have:=name_size h; show (tx w).size≤_; omega,by show 0≤_; omega,by show (0:Int)≤0; omega,by show (0:Int)≤_; omega⟩
theorem fS_ok {f:Fld} (h:f.ok=true):∀ s∈fS f,ShOk s:=by
 have h0:=h;unfold Fld.ok at h;rw [Bool.and_eq_true,Bool.and_eq_true,decide_eq_true_eq] at h;intro s hs;unfold fS at hs;simp only [List.mem_append,List.mem_cons,List.not_mem_nil,or_false] at hs;rcases hs with hs | rfl | hs | rfl
 · exact wS_ok _ s hs
 · exact nm_ok h.1
 · split at hs
   · cases hs
   · simp only [List.mem_append,List.mem_cons,List.not_mem_nil,or_false] at hs;rcases hs with rfl | rfl | rfl
     · exact sg_ok _
     · have:=nB_len f.num;exact ⟨by show (nB f.num).length≤_; omega,by show 0≤_; omega,by show (0:Int)≤(f.num:Int); omega,by show (f.num:Int)≤_; omega⟩
     · exact sg_ok _
 · exact sg_ok _
theorem stS_ok {name:List UInt8} {fs:List Fld} (hn:nmB name=true) (h:fs.all Fld.ok=true):∀ s∈stS name fs,ShOk s:=by
 intro s hs;unfold stS at hs;simp only [List.mem_append,List.mem_cons,List.not_mem_nil,or_false,List.mem_flatMap] at hs;rcases hs with rfl | rfl | rfl | ⟨f,hf,hs⟩ | rfl | rfl
 · exact ⟨by show 6≤_; omega,by show 0≤_; omega,by show (0:Int)≤0; omega,by show (0:Int)≤_; omega⟩
 · exact nm_ok hn
 · exact sg_ok _
 · exact fS_ok (List.all_eq_true.1 h f hf) s hs
 · exact sg_ok _
 · exact sg_ok _
theorem depth_one {l:List It} (hl:l.length≤2) (h:∀ i∈l,∃ a name fs,i=itS a name fs∧nmB name=true∧fs.all Fld.ok=true):depthM l≤40:=by
 have g:∀ (l:List It) (x:Wr),(∀ i∈l,∃ a name fs,i=itS a name fs∧nmB name=true∧fs.all Fld.ok=true)→x.depth=0→x.most≤2→(l.foldl depthF x).most≤2:=by
  intro l
  induction l with
  | nil=>intro x _ _ hm; exact hm
  | cons i l ih =>
    intro x h hd hm;obtain ⟨a,name,fs,rfl,h1,h2⟩:=h _ (List.mem_cons_self ..);obtain ⟨g1,g2,g3⟩:=it_up h1 h2 a x;refine ih (depthF x (itS a name fs)) (fun i hi=>h i (List.mem_cons_of_mem _ hi)) ?_ ?_
    · show (itW _ x).depth=0; omega
    · show (itW _ x).most≤2; omega
 rw [depthM_eq];have:=g l ⟨nt,0,0,true⟩ h rfl (by decide);omega
theorem dump_one {l:List It} (hl:l.length≤2) (h:∀ i∈l,∃ a name fs,i=itS a name fs∧nmB name=true∧fs.all Fld.ok=true∧fs.length≤12):(dumpL l).size≤10000:=by
 have g:∀ (l:List It) (x:Wr),(∀ i∈l,∃ a name fs,i=itS a name fs∧nmB name=true∧fs.all Fld.ok=true∧fs.length≤12)→(l.foldl dumpF x).out.size≤x.out.size+1000 * l.length:=by
  intro l
  induction l with
  | nil=>intro x _; exact Nat.le_refl _
  | cons i l ih =>
    intro x h;obtain ⟨a,name,fs,rfl,h1,h2,h3⟩:=h _ (List.mem_cons_self ..);obtain ⟨g1,g2,g3⟩:=it_up h1 h2 a x;have:=ih (dumpF x (itS a name fs)) (fun i hi=>h i (List.mem_cons_of_mem _ hi));rw [dumpF_size] at this;rw [List.foldl_cons,List.length_cons];omega
 rw [dumpL_eq];have:=g l ⟨nt,0,0,true⟩ h;have e:(⟨nt,0,0,true⟩:Wr).out.size=0:=rfl;omega
theorem parsed {s:ByteArray} {ts:List Tk} {l:List It} {u:St} (ht:tokensM s=⟨ts,0,0⟩) (hs:s.size≤20000) (hn:ts.length≤6000) (htk:ts.all tkOk=true) (hl:l.length≤2)
    (hi:itemsM ⟨ts,s.size⟩ (ts.length+1) ⟨0,[],0,0⟩ []=(l,u)) (hu:u.code=0) (h:∀ i∈l,∃ a name fs,i=itS a name fs∧nmB name=true∧fs.all Fld.ok=true∧fs.length≤12):parseM s=⟨l,0,0⟩∧parseOk s=true:=by
 have hd:=depth_one hl (fun i hi=>by obtain ⟨a,n,fs,h1,h2,h3,_⟩:=h i hi; exact ⟨a,n,fs,h1,h2,h3⟩);have hz:=dump_one hl h;constructor
 · unfold parseM;simp only [ht,hi,hu];rw [if_neg (by decide),if_neg (by decide),if_neg (by omega)]
 · unfold parseOk itemsOf;simp only [ht,hi,hu,htk];rw [if_neg (by decide),if_neg (by decide)];simp only [Bool.and_eq_true,decide_eq_true_eq,Bool.true_and,List.all_eq_true];refine ⟨⟨by omega,hn⟩,fun i hi=>?_,fun i hi=>?_,by unfold BIG; omega⟩
   · obtain ⟨a,n,fs,rfl,h1,h2,_⟩:=h i hi; exact itS_ok h2 a
   · obtain ⟨a,n,fs,rfl,h1,h2,h3⟩:=h i hi;have:=(it_up h1 h2 a ⟨nt,0,0,true⟩).s;have e:(⟨nt,0,0,true⟩:Wr).out.size=0:=rfl;unfold BIG; omega
theorem items_none {C:Cx} {p:Nat} {ty:List ByteArray} {c u:Int} {fu:Nat} {acc:List It} (h:C.T.length≤p):itemsM C fu ⟨p,ty,c,u⟩ acc=(acc,⟨p,ty,c,u⟩):=by
 cases fu with
 | zero=>rfl
 | succ f=>unfold itemsM; rw [if_neg (by show ¬ p < _; omega)]
theorem fS_pos (f:Fld):1≤(fS f).length:=by
 unfold fS;simp only [List.length_append,List.length_cons,List.length_nil];omega
theorem fs_le:∀ fs:List Fld,fs.length≤(fs.flatMap fS).length
 | []=>Nat.le_refl _
 | f::fs=>by
   have:=fs_le fs;have:=fS_pos f;rw [List.flatMap_cons,List.length_append,List.length_cons]; omega
theorem parse1 {s:ByteArray} {name:List UInt8} {f:Fld} {fs:List Fld} (hs:s.data.toList=stB name (f::fs)) (hn:nmB name=true) (hw:wordL name=false) (h:(f::fs).all Fld.ok=true) (hl:(f::fs).length≤12) :
    ∃ a,parseM s=⟨[itS a name (f::fs)],0,0⟩∧parseOk s=true:=by
 have hz:=struct_len hn h;have hsz:s.size=(stB name (f::fs)).length:=by rw [← hs]; simp
 have hR:=Rd.struct hn hw h [];rw [List.append_nil,← hs] at hR;obtain ⟨ts,e,ht⟩:=Rd.all hR (by omega) (by omega) (by omega);have hlen:ts.length=(stS name (f::fs)).length:=by rw [← e,List.length_map]
 have hsl:fs.length≤ts.length:=by
  rw [hlen];simp only [List.length_cons] at hl;have:=fs_le fs;unfold stS;rw [List.flatMap_cons];simp only [List.length_append,List.length_cons,List.length_nil];omega
 obtain ⟨a,ha⟩:=struct_at (C:=⟨ts,s.size⟩) (p:=0) (ty:=[]) (c:=0) (u:=0) (rest:=[]) h e (by show ts.drop 0=_; simp) hsl;have hpos:0 < ts.length:=by rw [hlen]; unfold stS; simp
 refine ⟨a,parsed ht (by omega) (by omega) (sh_tk e (stS_ok hn h)) (by simp) (u:=⟨0+ts.length,[],0,0⟩) ?_ rfl (fun i hi=>?_)⟩
 · obtain ⟨k,hk⟩:∃ k,ts.length=k+1:=⟨ts.length - 1,by omega⟩;rw [show ts.length+1=(k+1)+1 by omega];unfold itemsM;rw [if_pos (show 0 < ts.length from hpos)];simp only [ha];rw [items_none (by show ts.length≤_; omega)];rfl
 · obtain rfl:=List.mem_singleton.1 hi;exact ⟨a,name,f::fs,rfl,hn,h,hl⟩
theorem parse2 {s:ByteArray} {n1 n2:List UInt8} {f g:Fld} {fs gs:List Fld} (hs:s.data.toList=stB n1 (f::fs)++32::stB n2 (g::gs)) (hn1:nmB n1=true) (hw1:wordL n1=false) (hn2:nmB n2=true) (hw2:wordL n2=false)
    (h1:(f::fs).all Fld.ok=true) (h2:(g::gs).all Fld.ok=true) (hl1:(f::fs).length≤12) (hl2:(g::gs).length≤12) :
    ∃ a b,parseM s=⟨[itS a n1 (f::fs),itS b n2 (g::gs)],0,0⟩∧parseOk s=true:=by
 have hz1:=struct_len hn1 h1;have hz2:=struct_len hn2 h2;have hsz:s.size=(stB n1 (f::fs)).length+(1+(stB n2 (g::gs)).length):=by
  have:s.data.toList.length=s.size:=by simp
  rw [← this,hs]; simp; omega
 have hR:=(Rd.struct hn1 hw1 h1 (32::(stB n2 (g::gs)++[]))).trans (Rd.sstruct hn2 hw2 h2 []);rw [List.append_nil,← hs] at hR;obtain ⟨ts,e,ht⟩:=Rd.all hR (by rw [List.length_append]; omega) (by rw [List.length_append]; omega) (by omega);have hlen:ts.length=(stS n1 (f::fs)).length+(stS n2 (g::gs)).length:=by rw [← List.length_append,← e,List.length_map]
 have hst:∀ (name:List UInt8) (f:Fld) (fs:List Fld),fs.length+1≤(stS name (f::fs)).length:=by
  intro name f fs;have:=fs_le fs;unfold stS;rw [List.flatMap_cons];simp only [List.length_append,List.length_cons,List.length_nil];omega
 have k1:=hst n1 f fs;have k2:=hst n2 g gs;obtain ⟨t1,t2,rfl,e1,e2⟩:=sh_app e;have hl1':t1.length=(stS n1 (f::fs)).length:=by rw [← e1,List.length_map]
 have hl2':t2.length=(stS n2 (g::gs)).length:=by rw [← e2,List.length_map]
 obtain ⟨a,ha⟩:=struct_at (C:=⟨t1++t2,s.size⟩) (p:=0) (ty:=[]) (c:=0) (u:=0) (rest:=t2) h1 e1 (by show (t1++t2).drop 0=_; simp) (by show _≤(t1++t2).length; rw [List.length_append]; omega);obtain ⟨b,hb⟩:=struct_at (C:=⟨t1++t2,s.size⟩) (p:=0+t1.length) (ty:=[]) (c:=0) (u:=0) (rest:=[]) h2 e2 (by show (t1++t2).drop _=_; simp) (by show _≤(t1++t2).length; rw [List.length_append]; omega);refine ⟨a,b,parsed ht (by omega) (by rw [hlen]; omega) (sh_tk e (fun x hx=>by rcases List.mem_append.1 hx with hx | hx; exact stS_ok hn1 h1 x hx; exact stS_ok hn2 h2 x hx)) (by simp) (u:=⟨0+t1.length+t2.length,[],0,0⟩) ?_ rfl (fun i hi=>?_)⟩
 · obtain ⟨k,hk⟩:∃ k,(t1++t2).length=k+2:=⟨(t1++t2).length - 2,by rw [List.length_append]; omega⟩;have hk':=hk;rw [List.length_append] at hk';rw [hk];unfold itemsM;rw [if_pos (show 0 < (t1++t2).length by omega)];simp only [ha];unfold itemsM;rw [if_pos (show 0+t1.length < (t1++t2).length by rw [List.length_append]; omega)];simp only [hb];rw [items_none (by show (t1++t2).length≤_; rw [List.length_append]; omega)];rfl
 · simp only [List.mem_cons,List.not_mem_nil,or_false] at hi;rcases hi with rfl | rfl
   · exact ⟨a,n1,f::fs,rfl,hn1,h1,hl1⟩
   · exact ⟨b,n2,g::gs,rfl,hn2,h2,hl2⟩
end Go.Proofs.YtjgkacggjhobmaaGreatDoor.Sy
namespace Go.Proofs.YtjgkacggjhobmaaGreatDoor
open Go.RowKit Lx
def bsK:Nat→ByteArray
 | 0=>⟨#[105,56]⟩
 | 1=>⟨#[117,56]⟩
 | 2=>⟨#[105,49,54]⟩
 | 3=>⟨#[117,49,54]⟩
 | 4=>⟨#[105,51,50]⟩
 | 5=>⟨#[117,51,50]⟩
 | 6=>⟨#[105,54,52]⟩
 | 7=>⟨#[117,54,52]⟩
 | 8=>⟨#[83,46,97]⟩
 | 9=>⟨#[83,46,111]⟩
 | _=>⟨#[118,111,105,100]⟩
def wdK:Nat→Int
 | 0 | 1=>8
 | 2 | 3=>16
 | 4 | 5=>32
 | 6 | 7=>64
 | _=>0
def sgK:Nat→Bool
 | 0 | 2 | 4 | 6=>true
 | _=>false
def kdK (j:Nat):Int:=if j < 8 then 1 else if j < 10 then 3 else 2
def nmK:Nat→ByteArray
 | 8=>⟨#[97]⟩
 | 9=>⟨#[111]⟩
 | _=>⟨#[]⟩
theorem shWidth_any {j:Nat} (hj:j < 11) (w:World):Calls Tryz.prog 37 #[.string (bsK j)] w fun e w'=>e=.returned (.agg #[.int .i64 (wdK j),.bool (sgK j)])∧Keeps No w w':=by
 have hc:j=0∨j=1∨j=2∨j=3∨j=4∨j=5∨j=6∨j=7∨j=8∨j=9∨j=10:=by omega
 rcases hc with rfl | rfl | rfl | rfl | rfl | rfl | rfl | rfl | rfl | rfl | rfl
 all_goals
  simp only [bsK];go_enter Tryz.func37,Tryz.ntmps37;go_wp2_with fail;go_returns;exact ⟨rfl,(by repeat (first | with_reducible exact Keeps.refl _ _ | with_reducible refine Keeps.alloc ?_ _ | with_reducible refine Keeps.drewN ?_ _ | with_reducible refine Keeps.drew ?_ | with_reducible refine Keeps.setCell ?_ (.inr (by simp)) _ | with_reducible refine Keeps.setRow ?_ (by simp) _))⟩
theorem fldW (b s:Value) (W:World):(Instr.field 119 (.agg #[b,s]) 0).run Tryz.prog W=.ok b W:=by
 unfold Instr.field;go_simp;rfl
theorem shBase_any {j:Nat} (hj:j < 11) (s:Int) (w:World):Calls Tryz.prog 21 #[.agg #[.string (bsK j),.int .i64 s]] w fun e w'=>e=.returned (.tuple #[.int .i64 (kdK j),.string (nmK j)])∧Keeps No w w':=by
 have HW:=zz (fun W=>shWidth_any hj W);have hc:j=10∨j=0∨j=1∨j=2∨j=3∨j=4∨j=5∨j=6∨j=7∨j=8∨j=9:=by omega
 rcases hc with rfl | hc
 · simp only [bsK];go_enter Tryz.func21,Tryz.ntmps21;go_wp2_with fail;go_returns;exact ⟨rfl,(by repeat (first | with_reducible exact Keeps.refl _ _ | with_reducible refine Keeps.alloc ?_ _ | with_reducible refine Keeps.drewN ?_ _ | with_reducible refine Keeps.drew ?_ | with_reducible refine Keeps.setCell ?_ (.inr (by simp)) _ | with_reducible refine Keeps.setRow ?_ (by simp) _))⟩
 rcases hc with rfl | rfl | rfl | rfl | rfl | rfl | rfl | rfl | hc
 rotate_right 1
 · rcases hc with rfl | rfl
   all_goals
    simp only [bsK,wdK,sgK] at HW ⊢;go_enter Tryz.func21,Tryz.ntmps21;go_wp2_with fail;refine (HW.out _).mono ?_;rintro e w1 ⟨rfl,hk⟩;have hfw:=fldW;have x1:(ByteArray.mk #[83,46,97]).extract 0 2=⟨#[83,46]⟩:=by kernel_rfl
    have x2:(ByteArray.mk #[83,46,97]).extract 2 3=⟨#[97]⟩:=by kernel_rfl
    have y1:(ByteArray.mk #[83,46,111]).extract 0 2=⟨#[83,46]⟩:=by kernel_rfl
    have y2:(ByteArray.mk #[83,46,111]).extract 2 3=⟨#[111]⟩:=by kernel_rfl
    have HK:Hid (Keeps No w w1):=zz (((Keeps.refl _ _).alloc _).trans hk (fun _ _ e=>e));clear hk;go_wp2_with fail;have hne:Nonempty (KW w1):=⟨KW.of _⟩;refine wp_region_class (C:=fun W=>∃ u:KW w1,W=u.W) (by kernel_rfl) (by kernel_rfl) ⟨⟨World.drew _,(Keeps.refl _ _).drew⟩,rfl⟩ ?_
    repeat (go_big_quiet_step (fail))
    refine wpQuiet_nil ?_;rintro _ ⟨T,rfl⟩;go_wp2_with fail;go_returns;exact ⟨rfl,HK.out.trans T.h (fun _ _ e=>e)⟩
 all_goals
  simp only [bsK,wdK,sgK] at HW ⊢;go_enter Tryz.func21,Tryz.ntmps21;go_wp2_with fail;refine (HW.out _).mono ?_;rintro e w1 ⟨rfl,hk⟩;have hfw:=fldW;go_wp2_with fail;go_returns;exact ⟨rfl,((Keeps.refl _ _).alloc _).trans hk (fun _ _ e=>e)⟩
end Go.Proofs.YtjgkacggjhobmaaGreatDoor
namespace Go.Proofs.YtjgkacggjhobmaaGreatDoor
open Go.RowKit Go.Maps Lx
def ptrR:Value→Option (DataW Unit × List MemPlace)
 | .pointer none=>some (.nil,[])
 | .pointer (some ⟨b,0,none⟩)=>some (.lit (.int .i64 (b:Int)),[])
 | _=>none
def ptrV:Option Nat→Value
 | none=>.pointer none
 | some b=>.pointer (some ⟨b,0,none⟩)
def ptrD:Option Nat→DataW Unit
 | none=>.nil
 | some b=>.lit (.int .i64 (b:Int))
theorem ptr_inv (v:Value) (x:Option Nat) (ps:List MemPlace) (h:ptrR v=some (ptrD x,ps)):v=ptrV x:=by
 unfold ptrR at h;split at h
 · cases x with
   | none=>rfl
   | some b=>injection h with h; injection h with h _; cases h
 · cases x with
   | none=>injection h with h; injection h with h _; cases h
   | some b =>
     injection h with h;injection h with h _;unfold ptrD at h;injection h with h;injection h with _ h;have:_=b:=Int.ofNat.inj h;subst this; rfl
 · cases h
noncomputable def mapSP:ML Tryz.prog ByteArray (Option Nat) where
 tm:=71
 tk:=9
 te:=51
 keyed:=string_keyed Tryz.underlying9
 und:=Tryz.underlying71
 kv k:=.string k
 kl k:=.string k.data.toList
 kok k:=k.size≤maxLen
 hkey k hk:=WideMaps.keyOf_string_mk Tryz.underlying9 hk
 kvinj a b h:=by injection h
 R:=ptrR
 ev:=ptrV
 ed:=ptrD
 eok _:=True
 hR x _:=by cases x <;> rfl
 hinv:=ptr_inv
 z:=none
 zok:=trivial
 hz w:=by kernel_rfl
structure Kf where
 v:Sy.Vr
 at_:Int
 size:Int
structure Kn where
 name:ByteArray
 size:Int
 align:Int
 fields:List Kf
def kfVals (f:Kf):List Value:=[.string f.v.name,.string f.v.ty.base,.int .i64 f.v.ty.stars,.bool f.v.arr,.int .u64 f.v.num,.int .i64 f.at_,.int .i64 f.size]
structure KnD (w:World) (D:Nat→Prop) (q:Nat) (k:Kn) (fa:Option Addr) (fc:Nat):Prop where
 d:D q
 row:w.heap[q]?=some (.cells #[.string k.name,.int .i64 k.size,.int .i64 k.align,.slice fa k.fields.length fc] 54 (0,0))
 fs:RwD w D 60 7 (.slice fa k.fields.length fc) k.fields.length (k.fields.flatMap kfVals)
theorem KnD.keep {S D:Nat→Prop} {w w':World} {q:Nat} {k:Kn} {fa:Option Addr} {fc:Nat} (h:KnD w D q k fa fc) (hk:Keeps S w w') (hS:∀ q,S q→¬ D q∨w.heap.size≤q):KnD w' D q k fa fc :=
 ⟨h.d,(hk.block q (Array.getElem?_eq_some_iff.1 h.row).1 (fun e=>by rcases hS q e with g | g; exact g h.d; have:=(Array.getElem?_eq_some_iff.1 h.row).1; omega)).trans h.row,h.fs.keep hk hS⟩
theorem KnD.mono {D D':Nat→Prop} {w:World} {q:Nat} {k:Kn} {fa:Option Addr} {fc:Nat} (h:KnD w D q k fa fc) (hD:∀ q,q < w.heap.size→D q→D' q):KnD w D' q k fa fc :=
 ⟨hD q (Array.getElem?_eq_some_iff.1 h.row).1 h.d,h.row,h.fs.mono hD⟩
structure Tx where
 P:Nat
 ma:Nat
 mb:Nat
 sa:Option Addr
 sc:Nat
 qs:List Nat
def Tx.D (X:Tx) (B n:Nat) (q:Nat):Prop:=B≤q∧q≠X.P∧q≠X.ma∧(Value.slice X.sa n X.sc).ownBlock≠some q
def Mp (w:World) (m:Nat) (ks:List Kn) (qs:List Nat):Prop:=∃ al,MapK mapSP w m al∧al.length≤ks.length∧(∀ n,(∀ k∈ks,k.name≠n)→kget al n=none)∧(∀ (i:Nat) (k:Kn) (q:Nat),ks[i]?=some k→qs[i]?=some q→kget al k.name=some (some q))
structure Tb (w:World) (B:Nat) (X:Tx) (ks:List Kn):Prop where
 row:w.heap[X.P]?=some (.cells #[.map (some X.ma),.map (some X.mb),.slice X.sa ks.length X.sc] 74 (0,0))
 ma:Mp w X.ma ks X.qs
 ord:w.ownsRow B 51 1 (.slice X.sa ks.length X.sc) ks.length (ptrs (X.qs.map (fun q=>some ⟨q,0,none⟩)))
 len:X.qs.length=ks.length
 kn:∀ (i:Nat) (k:Kn) (q:Nat),ks[i]?=some k→X.qs[i]?=some q→∃ fa fc,KnD w (X.D B ks.length) q k fa fc
 bP:B≤X.P
 bM:B≤X.ma
 ne:X.P≠X.ma∧(∀ q,(Value.slice X.sa ks.length X.sc).ownBlock=some q→q≠X.P∧q≠X.ma)
theorem Tb.no {w w':World} {B:Nat} {X:Tx} {ks:List Kn} (h:Tb w B X ks) (hk:Keeps No w w'):Tb w' B X ks:=by
 obtain ⟨al,h1,h2⟩:=h.ma;exact ⟨(hk.block _ (Array.getElem?_eq_some_iff.1 h.row).1 (fun e=>e)).trans h.row,⟨al,h1.block (hk.block _ h1.lt (fun e=>e)),h2⟩,own_kept h.ord (fun q hq=>hk.block q (own_ltb h.ord hq) (fun e=>e)),h.len,
  fun i k q a b=>by obtain ⟨fa,fc,g⟩:=h.kn i k q a b; exact ⟨fa,fc,g.keep hk (fun _ e=>e.elim)⟩,h.bP,h.bM,h.ne⟩
theorem Tb.cell {w:World} {B:Nat} {X:Tx} {ks:List Kn} (h:Tb w B X ks) {j:Nat} {v:Value} (hv:#[Value.map (some X.ma),.map (some X.mb),.slice X.sa ks.length X.sc][j]?=some v):w.cell? ⟨X.P,j,none⟩=some v:=by
 rw [cell_of_row w X.P j _ _ _ h.row]; exact hv
theorem Tb.look {w:World} {B:Nat} {X:Tx} {ks:List Kn} (h:Tb w B X ks) {i:Nat} {k:Kn} {q:Nat} (hk:ks[i]?=some k) (hq:X.qs[i]?=some q) (hn:k.name.size≤maxLen) :
    (Instr.lookup 71 (.map (some X.ma)) (.string k.name) false).run Tryz.prog w=.ok (.pointer (some ⟨q,0,none⟩)) w:=by
 obtain ⟨al,h1,_,_,h4⟩:=h.ma;have:=MapK.look h1 (M:=mapSP) (k:=k.name) hn;rw [h4 i k q hk hq] at this;exact this
theorem Tb.look_no {w:World} {B:Nat} {X:Tx} {ks:List Kn} (h:Tb w B X ks) {n:ByteArray} (hk:∀ k∈ks,k.name≠n) (hn:n.size≤maxLen) :
    (Instr.lookup 71 (.map (some X.ma)) (.string n) false).run Tryz.prog w=.ok (.pointer none) w:=by
 obtain ⟨al,h1,_,h3,_⟩:=h.ma;have:=MapK.look h1 (M:=mapSP) (k:=n) hn;rw [h3 n hk] at this;exact this
def szOf (ks:List Kn) (j:Nat) (s:Int):Int × Int :=
 if 0 < s then (if j=10 then (0,0) else (8,8)) else if j < 8 then (wdK j / 8,wdK j / 8) else if j < 10 then (match ks.find? (fun k=>k.name==nmK j) with
  | some k=>(k.size,k.align)
  | none=>(0,0)) else (0,0)
theorem up_any (n a:Int) (hn:0≤n∧n≤1000000000) (ha:1≤a∧a≤8) (w:World):Calls Tryz.prog 47 #[.int .i64 n,.int .i64 a] w fun e w'=>e=.returned (.int .i64 ((n+a - 1) / a * a))∧Keeps No w w':=by
 have h0:(a==0)=false:=beq_eq_false_iff_ne.2 (by omega);have hq:(n+a - 1) / a * a≤n+a - 1:=Int.ediv_mul_le _ (by omega);have hq0:0≤(n+a - 1) / a:=Int.ediv_nonneg (by omega) (by omega);have hq1:(n+a - 1) / a≤n+a - 1:=Int.ediv_le_self _ (by omega);have ht:Int.tdiv (n+a - 1) a=(n+a - 1) / a:=Int.tdiv_eq_ediv_of_nonneg (by omega);have hq2:0≤(n+a - 1) / a * a:=Int.mul_nonneg hq0 (by omega);go_enter Tryz.func47,Tryz.ntmps47;go_wp2_with fail;go_returns;exact ⟨rfl,(by repeat (first | with_reducible exact Keeps.refl _ _ | with_reducible refine Keeps.alloc ?_ _ | with_reducible refine Keeps.drewN ?_ _ | with_reducible refine Keeps.drew ?_ | with_reducible refine Keeps.setCell ?_ (.inr (by simp)) _ | with_reducible refine Keeps.setRow ?_ (by simp) _))⟩
theorem ty_cell {w:World} {b:ByteArray} {s:Int} {v:Value} {j:Nat} (hv:#[Value.string b,.int .i64 s][j]?=some v):(w.alloc (.cells #[.string b,.int .i64 s] 56)).cell? ⟨w.heap.size,j,none⟩=some v:=by
 rw [cell_of_row _ w.heap.size j _ _ _ (heap_alloc_new _ _)]; exact hv
theorem size_ptr {B:Nat} {X:Tx} {ks:List Kn} {j:Nat} (hj:j < 10) {s:Int} (hs:0 < s) (w:World) (h:Tb w B X ks) :
    Calls Tryz.prog 23 #[.pointer (some ⟨X.P,0,none⟩),.agg #[.string (bsK j),.int .i64 s]] w fun e w'=>e=.returned (.tuple #[.int .i64 8,.int .i64 8])∧Keeps No w w':=by
 have HB:=zz (fun W=>shBase_any (j:=j) (by omega) s W);obtain ⟨b,hb⟩:∃ b,bsK j=b:=⟨_,rfl⟩;obtain ⟨nm,hnm⟩:∃ b,nmK j=b:=⟨_,rfl⟩;rw [hb,hnm] at HB;rw [hb];have hkd:kdK j=1∨kdK j=3:=by
  rcases Nat.lt_or_ge j 8 with h8 | h8
  · exact .inl (if_pos h8)
  · exact .inr (by unfold kdK; rw [if_neg (by omega),if_pos hj])
 clear hb hnm hj h;rcases hkd with hkd | hkd
 all_goals
  rw [hkd] at HB;go_enter Tryz.func23,Tryz.ntmps23;go_upto_region 1 with fail
  obtain ⟨w1,hw1⟩:∃ W,w.alloc (.cells #[.string b,.int .i64 s] 56)=W:=⟨_,rfl⟩;obtain ⟨R,hR⟩:∃ R,w.heap.size=R:=⟨_,rfl⟩;have c0:w1.cell? ⟨R,0,none⟩=some (.string b):=by rw [← hw1,← hR]; exact ty_cell rfl
  have c1:w1.cell? ⟨R,1,none⟩=some (.int .i64 s):=by rw [← hw1,← hR]; exact ty_cell rfl
  have HK:Hid (Keeps No w w1):=zz (by rw [← hw1]; exact (Keeps.refl _ _).alloc _);rw [hw1,hR];clear hw1 hR;go_wp2_with fail;refine (HB.out _).mono ?_;rintro e w2 ⟨rfl,hk⟩;have d1:w2.cell? ⟨R,1,none⟩=some (.int .i64 s):=hk.cell0 c1;have HK2:Hid (Keeps No w w2):=zz (HK.out.trans hk (fun _ _ e=>e));clear hk c0 c1;go_wp2_with fail;go_returns;exact ⟨rfl,HK2.out⟩
theorem size_int {B:Nat} {X:Tx} {ks:List Kn} {j:Nat} (hj:j < 8) (w:World) (h:Tb w B X ks) :
    Calls Tryz.prog 23 #[.pointer (some ⟨X.P,0,none⟩),.agg #[.string (bsK j),.int .i64 0]] w fun e w'=>e=.returned (.tuple #[.int .i64 (wdK j / 8),.int .i64 (wdK j / 8)])∧Keeps No w w':=by
 have HB:=zz (fun W=>shBase_any (j:=j) (by omega) 0 W);have HW:=zz (fun W=>shWidth_any (j:=j) (by omega) W);obtain ⟨b,hb⟩:∃ b,bsK j=b:=⟨_,rfl⟩;obtain ⟨nm,hnm⟩:∃ b,nmK j=b:=⟨_,rfl⟩;obtain ⟨sg,hsg⟩:∃ b,sgK j=b:=⟨_,rfl⟩;rw [hb,hnm,show kdK j=1 from if_pos hj] at HB;rw [hb,hsg] at HW;rw [hb];have hkd:wdK j=8∨wdK j=16∨wdK j=32∨wdK j=64:=by
  have hc:j=0∨j=1∨j=2∨j=3∨j=4∨j=5∨j=6∨j=7:=by omega
  rcases hc with rfl | rfl | rfl | rfl | rfl | rfl | rfl | rfl <;> decide
 clear hb hnm hsg hj h;rcases hkd with hkd | hkd | hkd | hkd
 all_goals
  rw [hkd] at HW ⊢;clear hkd;go_enter Tryz.func23,Tryz.ntmps23;go_upto_region 1 with fail
  obtain ⟨w1,hw1⟩:∃ W,w.alloc (.cells #[.string b,.int .i64 0] 56)=W:=⟨_,rfl⟩;obtain ⟨R,hR⟩:∃ R,w.heap.size=R:=⟨_,rfl⟩;have c0:w1.cell? ⟨R,0,none⟩=some (.string b):=by rw [← hw1,← hR]; exact ty_cell rfl
  have c1:w1.cell? ⟨R,1,none⟩=some (.int .i64 0):=by rw [← hw1,← hR]; exact ty_cell rfl
  have HK:Hid (Keeps No w w1):=zz (by rw [← hw1]; exact (Keeps.refl _ _).alloc _);rw [hw1,hR];clear hw1 hR;go_wp2_with fail;refine (HB.out _).mono ?_;rintro e w2 ⟨rfl,hk⟩;have d0:w2.cell? ⟨R,0,none⟩=some (.string b):=hk.cell0 c0;have d1:w2.cell? ⟨R,1,none⟩=some (.int .i64 0):=hk.cell0 c1;have HK2:Hid (Keeps No w w2):=zz (HK.out.trans hk (fun _ _ e=>e));clear hk c0 c1;go_wp2_with fail;refine (HW.out _).mono ?_;rintro e w3 ⟨rfl,hk⟩;have hfw:=fldW;have HK3:Hid (Keeps No w w3):=zz (HK2.out.trans hk (fun _ _ e=>e));clear hk d0 d1;go_wp2_with fail;go_returns;exact ⟨rfl,HK3.out⟩
theorem size_void {B:Nat} {X:Tx} {ks:List Kn} (w:World) (h:Tb w B X ks) :
    Calls Tryz.prog 23 #[.pointer (some ⟨X.P,0,none⟩),.agg #[.string ⟨#[118,111,105,100]⟩,.int .i64 0]] w fun e w'=>e=.returned (.tuple #[.int .i64 0,.int .i64 0])∧Keeps No w w':=by
 have HB:Hid (∀ W,Calls Tryz.prog 21 #[.agg #[.string ⟨#[118,111,105,100]⟩,.int .i64 0]] W fun e w'=>e=.returned (.tuple #[.int .i64 2,.string ⟨#[]⟩])∧Keeps No W w'):=zz (fun W=>shBase_any (j:=10) (by omega) 0 W);clear h;obtain ⟨b,hb⟩:∃ b,(⟨#[118,111,105,100]⟩:ByteArray)=b:=⟨_,rfl⟩;rw [hb] at HB ⊢;clear hb;go_enter Tryz.func23,Tryz.ntmps23;go_upto_region 1 with fail
 obtain ⟨w1,hw1⟩:∃ W,w.alloc (.cells #[.string b,.int .i64 0] 56)=W:=⟨_,rfl⟩;obtain ⟨R,hR⟩:∃ R,w.heap.size=R:=⟨_,rfl⟩;have c0:w1.cell? ⟨R,0,none⟩=some (.string b):=by rw [← hw1,← hR]; exact ty_cell rfl
 have c1:w1.cell? ⟨R,1,none⟩=some (.int .i64 0):=by rw [← hw1,← hR]; exact ty_cell rfl
 have HK:Hid (Keeps No w w1):=zz (by rw [← hw1]; exact (Keeps.refl _ _).alloc _);rw [hw1,hR];clear hw1 hR;go_wp2_with fail;refine (HB.out _).mono ?_;rintro e w2 ⟨rfl,hk⟩;have d0:w2.cell? ⟨R,0,none⟩=some (.string b):=hk.cell0 c0;have d1:w2.cell? ⟨R,1,none⟩=some (.int .i64 0):=hk.cell0 c1;have HK2:Hid (Keeps No w w2):=zz (HK.out.trans hk (fun _ _ e=>e));clear hk c0 c1;go_wp2_with fail;go_returns;exact ⟨rfl,HK2.out⟩
theorem size_str {B:Nat} {X:Tx} {ks:List Kn} {j:Nat} (hj:j=8∨j=9) {i q:Nat} {k:Kn} (hk:ks[i]?=some k) (hq:X.qs[i]?=some q) (hn:k.name=nmK j) (w:World) (h:Tb w B X ks) :
    Calls Tryz.prog 23 #[.pointer (some ⟨X.P,0,none⟩),.agg #[.string (bsK j),.int .i64 0]] w fun e w'=>e=.returned (.tuple #[.int .i64 k.size,.int .i64 k.align])∧Keeps No w w':=by
 have HB:=zz (fun W=>shBase_any (j:=j) (by omega) 0 W);have HT:=zz h;have hns:k.name.size≤maxLen:=by rw [hn]; rcases hj with rfl | rfl <;> decide
 have HL:Hid (∀ W,Keeps No w W→(Instr.lookup 71 (.map (some X.ma)) (.string k.name) false).run Tryz.prog W=.ok (.pointer (some ⟨q,0,none⟩)) W):=zz (fun W hW=>(h.no hW).look hk hq hns);obtain ⟨fa,fc,hkd⟩:=h.kn i k q hk hq;have HQ:Hid (∀ W,Keeps No w W→W.cell? ⟨q,1,none⟩=some (.int .i64 k.size)∧W.cell? ⟨q,2,none⟩=some (.int .i64 k.align)):=zz (fun W hW=>by
  have g:=(hkd.keep hW (fun _ e=>e.elim)).row;exact ⟨by rw [cell_of_row W q 1 _ _ _ g]; rfl,by rw [cell_of_row W q 2 _ _ _ g]; rfl⟩)
 have e3:kdK j=3:=by rcases hj with rfl | rfl <;> rfl
 rw [e3,← hn] at HB;obtain ⟨b,hb⟩:∃ b,bsK j=b:=⟨_,rfl⟩;obtain ⟨nm,hnm⟩:∃ b,k.name=b:=⟨_,rfl⟩;obtain ⟨sz,hsz⟩:∃ b,k.size=b:=⟨_,rfl⟩;obtain ⟨al,hal⟩:∃ b,k.align=b:=⟨_,rfl⟩;rw [hb,hnm] at HB;rw [hnm] at HL;rw [hsz,hal] at HQ ⊢;rw [hb];clear hb hnm hsz hal hj h hns hkd hn e3 hk hq;go_enter Tryz.func23,Tryz.ntmps23;go_upto_region 1 with fail
 obtain ⟨w1,hw1⟩:∃ W,w.alloc (.cells #[.string b,.int .i64 0] 56)=W:=⟨_,rfl⟩;obtain ⟨R,hR⟩:∃ R,w.heap.size=R:=⟨_,rfl⟩;have c0:w1.cell? ⟨R,0,none⟩=some (.string b):=by rw [← hw1,← hR]; exact ty_cell rfl
 have c1:w1.cell? ⟨R,1,none⟩=some (.int .i64 0):=by rw [← hw1,← hR]; exact ty_cell rfl
 have HK:Hid (Keeps No w w1):=zz (by rw [← hw1]; exact (Keeps.refl _ _).alloc _);rw [hw1,hR];clear hw1 hR;go_wp2_with fail;refine (HB.out _).mono ?_;rintro e w2 ⟨rfl,hk⟩;have d0:w2.cell? ⟨R,0,none⟩=some (.string b):=hk.cell0 c0;have d1:w2.cell? ⟨R,1,none⟩=some (.int .i64 0):=hk.cell0 c1;have HK2:Hid (Keeps No w w2):=zz (HK.out.trans hk (fun _ _ e=>e));clear hk c0 c1;have pm:w2.cell? ⟨X.P,0,none⟩=some (.map (some X.ma)):=(HT.out.no HK2.out).cell rfl;have plk:=HL.out w2 HK2.out;obtain ⟨q1,q2⟩:=HQ.out w2 HK2.out;go_wp2_with fail;have z1:∀ u:KW w2,u.W.cell? ⟨q,1,none⟩=some (.int .i64 sz):=fun u=>u.cell q1
 have z2:∀ u:KW w2,u.W.cell? ⟨q,2,none⟩=some (.int .i64 al):=fun u=>u.cell q2
 have hne:Nonempty (KW w2):=⟨KW.of _⟩;clear pm plk q1 q2 d0 d1;refine wp_region_class (C:=fun W=>∃ u:KW w2,W=u.W) (by kernel_rfl) (by kernel_rfl) ⟨⟨World.drew _,(Keeps.refl _ _).drew⟩,rfl⟩ ?_
 repeat (go_big_quiet_step (fail))
 refine wpQuiet_nil ?_;rintro _ ⟨T,rfl⟩;go_wp2_with fail;go_returns;exact ⟨rfl,HK2.out.trans T.h (fun _ _ e=>e)⟩
end Go.Proofs.YtjgkacggjhobmaaGreatDoor
namespace Go.Proofs.YtjgkacggjhobmaaGreatDoor
open Go.RowKit Go.Maps Lx Sy
def tsz (z:Int × Int) (k:Nat):Int × Int:=if k < 8 then (wdK k / 8,wdK k / 8) else if k < 10 then (8,8) else z
def fsz (z:Int × Int) (f:Fld):Int:=if f.num=0 then (tsz z f.k).1 else (tsz z f.k).1 * (f.num:Int)
structure Ac where
 s:Int
 a:Int
 l:List Kf
def stepF (z:Int × Int) (r:Ac) (f:Fld):Ac :=
 ⟨(r.s+(tsz z f.k).2 - 1) / (tsz z f.k).2 * (tsz z f.k).2+fsz z f,max r.a (tsz z f.k).2,r.l++[⟨vrF f,(r.s+(tsz z f.k).2 - 1) / (tsz z f.k).2 * (tsz z f.k).2,fsz z f⟩]⟩
def accF (z:Int × Int) (fs:List Fld):Ac:=fs.foldl (stepF z) ⟨0,1,[]⟩
def placeK (z:Int × Int) (name:List UInt8) (fs:List Fld):Kn:=⟨tx name,((accF z fs).s+(accF z fs).a - 1) / (accF z fs).a * (accF z fs).a,(accF z fs).a,(accF z fs).l⟩
def Zok (z:Int × Int):Prop:=1≤z.1∧z.1≤1000∧1≤z.2∧z.2≤8
theorem tsz_ok {z:Int × Int} (hz:Zok z) (k:Nat):Zok (tsz z k):=by
 unfold tsz;split
 · next h =>
   have hc:k=0∨k=1∨k=2∨k=3∨k=4∨k=5∨k=6∨k=7:=by omega
   rcases hc with rfl | rfl | rfl | rfl | rfl | rfl | rfl | rfl <;> exact (by unfold Zok; decide)
 · split
   · exact (by unfold Zok; decide)
   · exact hz
theorem fsz_ok {z:Int × Int} (hz:Zok z) {f:Fld} (hf:f.num < 100):1≤fsz z f∧fsz z f≤100000:=by
 obtain ⟨h1,h2,_⟩:=tsz_ok hz f.k;unfold fsz;split
 · omega
 · next h0 =>
   have hn:1≤(f.num:Int):=by omega
   have hm:(f.num:Int)≤100:=by omega
   have e1:(tsz z f.k).1 * (f.num:Int)≤1000 * 100:=Int.mul_le_mul h2 hm (by omega) (by omega);have e2:1 * 1≤(tsz z f.k).1 * (f.num:Int):=Int.mul_le_mul h1 hn (by omega) (by omega);omega
theorem up_ok {n a:Int} (hn:0≤n) (ha:1≤a∧a≤8):n≤(n+a - 1) / a * a∧(n+a - 1) / a * a≤n+7:=by
 have h1:(n+a - 1) / a * a≤n+a - 1:=Int.ediv_mul_le _ (by omega);have h2:n+a - 1 < ((n+a - 1) / a+1) * a:=Int.lt_ediv_add_one_mul_self _ (by omega);rw [Int.add_mul,Int.one_mul] at h2;omega
theorem step_ok {z:Int × Int} (hz:Zok z) {f:Fld} (hf:f.num < 100) {r:Ac} (hs:0≤r.s) (ha:1≤r.a∧r.a≤8) :
    r.s≤(stepF z r f).s∧(stepF z r f).s≤r.s+100010∧1≤(stepF z r f).a∧(stepF z r f).a≤8:=by
 obtain ⟨_,_,h3,h4⟩:=tsz_ok hz f.k;have h5:=fsz_ok hz hf;have h6:=up_ok hs ⟨h3,h4⟩;unfold stepF;simp only;omega
theorem acc_take {z:Int × Int} (hz:Zok z) {fs:List Fld} (hf:∀ f∈fs,f.num < 100):∀ (i:Nat),i≤fs.length→0≤(accF z (fs.take i)).s∧(accF z (fs.take i)).s≤100010 * (i:Int)∧1≤(accF z (fs.take i)).a∧(accF z (fs.take i)).a≤8∧(accF z (fs.take i)).l.length=i
 | 0,_=>⟨by show (0:Int)≤0; omega,by show (0:Int)≤_; omega,by show (1:Int)≤1; omega,by show (1:Int)≤8; omega,rfl⟩
 | i+1,h=>by
   obtain ⟨h1,h2,h3,h4,h5⟩:=acc_take hz hf i (by omega);obtain ⟨f,hfi⟩:∃ f,fs[i]?=some f:=⟨_,List.getElem?_eq_getElem (by omega)⟩;have e:accF z (fs.take (i+1))=stepF z (accF z (fs.take i)) f:=by
    unfold accF;rw [List.take_add_one,hfi,List.foldl_append]; rfl
   rw [e];have h6:=step_ok hz (hf f (List.mem_of_getElem? hfi)) h1 ⟨h3,h4⟩;refine ⟨by omega,by omega,by omega,by omega,?_⟩;show ((accF z (fs.take i)).l++[_]).length=i+1;rw [List.length_append,h5]; rfl
theorem acc_step {z:Int × Int} {fs:List Fld} {i:Nat} {f:Fld} (h:fs[i]?=some f):accF z (fs.take (i+1))=stepF z (accF z (fs.take i)) f:=by
 unfold accF;rw [List.take_add_one,h,List.foldl_append]; rfl
def SA (ks:List Kn) (X:Tx) (z:Int × Int):Prop:=∃ (i q:Nat) (k:Kn),ks[i]?=some k∧X.qs[i]?=some q∧k.name=nmK 8∧(k.size,k.align)=z
theorem tsize_any {B:Nat} {X:Tx} {ks:List Kn} {z:Int × Int} (k:Nat) (hz:10≤k→SA ks X z) (w:World) (h:Tb w B X ks) :
    Calls Tryz.prog 23 #[.pointer (some ⟨X.P,0,none⟩),.agg #[.string (tyK k).base,.int .i64 (tyK k).stars]] w fun e w'=>e=.returned (.tuple #[.int .i64 (tsz z k).1,.int .i64 (tsz z k).2])∧Keeps No w w':=by
 match k,hz with
 | 0,_=>exact size_int (j:=0) (by omega) w h
 | 1,_=>exact size_int (j:=1) (by omega) w h
 | 2,_=>exact size_int (j:=2) (by omega) w h
 | 3,_=>exact size_int (j:=3) (by omega) w h
 | 4,_=>exact size_int (j:=4) (by omega) w h
 | 5,_=>exact size_int (j:=5) (by omega) w h
 | 6,_=>exact size_int (j:=6) (by omega) w h
 | 7,_=>exact size_int (j:=7) (by omega) w h
 | 8,_=>exact size_ptr (j:=0) (by omega) (s:=1) (by omega) w h
 | 9,_=>exact size_ptr (j:=8) (by omega) (s:=1) (by omega) w h
 | n+10,hz =>
   obtain ⟨i,q,k,h1,h2,h3,h4⟩:=hz (by omega);have:=size_str (j:=8) (.inl rfl) h1 h2 h3 w h;have e:tsz z (n+10)=z:=by unfold tsz; rw [if_neg (by omega),if_neg (by omega)]
   rw [e,← h4];exact this
theorem infoFld:(Tryz.prog.info? 60).map (fun i=>(i.zero,i.size,i.bytes))=some (some (.agg #[.string ⟨#[]⟩,.string ⟨#[]⟩,.int .i64 0,.bool false,.int .u64 0,.int .i64 0,.int .i64 0]),7,72):=by kernel_rfl
theorem kf_one (v:Kf):∀ u∈kfVals v,u.oneCell'=true:=by
 intro u hu;unfold kfVals at hu;simp only [List.mem_cons,List.not_mem_nil,or_false] at hu;rcases hu with rfl | rfl | rfl | rfl | rfl | rfl | rfl <;> rfl
theorem kf_len (l:List Kf):(l.flatMap kfVals).length=l.length * 7:=by
 induction l with
 | nil=>rfl
 | cons v t ih=>simp only [List.flatMap_cons,List.length_append,ih,List.length_cons]; show 7+_=_; omega
theorem wpList_appF (w:World) {ops:Array Oper} {rest:List Oper} {o:Oper} {a:Act} {Q:Exit→Act→World→Prop} (hgd:o.guard=none) (s x:Operand) (t:TypeId)
    (ho:o.op=.call { callee:=.builtin .append,args:=#[s,x],argTypes:=#[t,t] }) (ht:Tryz.prog.underlying t=some (.slice 60))
    (B:Nat) (v:Value) (n:Nat) (l1:List Kf) (y:Kf) (q:Nat) (hs:a.eval s=v) (hown:w.ownsRow B 60 7 v n (l1.flatMap kfVals)) (hx:a.eval x=.slice (some ⟨q,0,none⟩) 1 1) (hq:w.heap[q]?=some (.cells (kfVals y).toArray 60 (0,0)))
    (hn:n≤999999) (hB:B≤w.heap.size)
    (h:∀ g' cap w',w'.ownsRow B 60 7 (.slice (some ⟨g',0,none⟩) (n+1) cap) (n+1) ((l1++[y]).flatMap kfVals)→w.grownBy w' v.ownBlock→(v.ownBlock=some g'∨w.heap.size≤g')→wpList Tryz.prog ops Q rest (a.put o.dst (.slice (some ⟨g',0,none⟩) (n+1) cap)) w'):wpList Tryz.prog ops Q (o::rest) a w:=by
 obtain ⟨i0,hi,hz0,hz1,hz2⟩:=info_parts infoFld;refine wpList_append_lies w hgd s x t ho B 60 i0 _ 7 72 ht hi hz0 hz1 hz2 rfl (by decide) v n _ hs hown ⟨q,0,none⟩ 1 1 (kfVals y) hx rfl (fun j u hu=>?_) (kf_one y) (by decide) (by unfold maxLen; omega) (by omega) hB _ rfl (fun g' cap w' k1 k2 k3 _=>h g' cap w' (by rw [List.flatMap_append]; simpa using k1) k2 (k3.imp id (fun e=>by omega)));have e:(⟨q,0,none⟩:Addr).add j=⟨q,0+j,none⟩:=by unfold Addr.add; split <;> simp_all
 rw [e,Nat.zero_add,cell_of_row w q _ _ _ _ hq,List.getElem?_toArray];exact hu
end Go.Proofs.YtjgkacggjhobmaaGreatDoor
