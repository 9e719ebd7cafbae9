import Derived.Test.YtjgkacggjhobmaaGreatDoorLyPkD
import Derived.Deep.AppendLies
set_option maxRecDepth 100000
set_option maxHeartbeats 25600000
set_option linter.unusedSimpArgs false
set_option linter.unusedVariables false
namespace Go.Proofs.YtjgkacggjhobmaaGreatDoor
open Go.RowKit Lx
theorem info_parts {e:TypeId} {z:Value} {size bytes:Nat} (h:(Tryz.prog.info? e).map (fun i=>(i.zero,i.size,i.bytes))=some (some z,size,bytes)):∃ i0,Tryz.prog.info? e=some i0∧i0.zero=some z∧i0.size=size∧i0.bytes=bytes:=by
 cases hi:Tryz.prog.info? e with
 | none=>rw [hi] at h; cases h
 | some i0 =>
   rw [hi] at h;have h2:(i0.zero,i0.size,i0.bytes)=(some z,size,bytes):=by simpa using h
   injection h2 with h3 h4;injection h4 with h5 h6;exact ⟨i0,rfl,h3,h5,h6⟩
theorem infoPE:(Tryz.prog.info? 94).map (fun i=>(i.zero,i.size,i.bytes))=some (some (.pointer none),1,8):=by kernel_rfl
theorem wpList_appP (w:World) {ops:Array Oper} {rest:List Oper} {o:Oper} {a:Act} {Q:Exit→Act→World→Prop} (hgd:o.guard=none) (s x:Operand)
    (ho:o.op=.call { callee:=.builtin .append,args:=#[s,x],argTypes:=#[95,95] })
    (B:Nat) (v:Value) (n:Nat) (xs:List Value) (u:Option Addr) (q:Nat) (hs:a.eval s=v) (hown:w.ownsRow B 94 1 v n xs) (hx:a.eval x=.slice (some ⟨q,0,none⟩) 1 1) (hq:w.heap[q]?=some (.cells #[.pointer u] 94 (0,0)))
    (hn:n≤999999) (hB:B≤w.heap.size)
    (h:∀ g' cap w',w'.ownsRow B 94 1 (.slice (some ⟨g',0,none⟩) (n+1) cap) (n+1) (xs++[.pointer u])→w.grownBy w' v.ownBlock→(v.ownBlock=some g'∨w.heap.size≤g')→wpList Tryz.prog ops Q rest (a.put o.dst (.slice (some ⟨g',0,none⟩) (n+1) cap)) w'):wpList Tryz.prog ops Q (o::rest) a w:=by
 obtain ⟨i0,hi,hz0,hz1,hz2⟩:=info_parts infoPE;refine wpList_append_lies w hgd s x _ ho B 94 i0 (.pointer none) 1 8 Tryz.underlying95 hi hz0 hz1 hz2 rfl (by decide) v n xs hs hown ⟨q,0,none⟩ 1 1 [.pointer u] hx rfl (fun j y hy=>?_) (fun y hy=>by simp at hy; subst hy; rfl) (by decide) (by unfold maxLen; omega) (by omega) hB _ rfl (fun g' cap w' k1 k2 k3 _=>h g' cap w' k1 k2 (k3.imp id (fun e=>by omega)));cases j with
 | zero=>obtain rfl:Value.pointer u=y:=by simpa using hy
         have e:(⟨q,0,none⟩:Addr).add 0=⟨q,0,none⟩:=by unfold Addr.add; split <;> simp_all
         rw [e]; unfold World.cell?; simp only; rw [hq]; rfl
 | succ j=>cases hy
theorem name_as (K:Pk) (σ:Sy.St) (n:ByteArray) (τ:Sy.St) (hn:Sy.nameM K.C σ=(n,τ)) (w:World) (h:PS w K σ):Calls Tryz.prog 66 #[.pointer (some ⟨K.P,0,none⟩)] w fun e w'=>e=.returned (.string n)∧At w w' K τ:=by
 have:=name_any K σ w h;rw [hn] at this;exact this
def Dc (B N:Nat) (v:Value) (q:Nat):Prop:=B≤q∧q≠N∧v.ownBlock≠some q
structure Arg (w:World) (B N:Nat) (sa:Option Addr) (sc:Nat) (av:List (Option Addr)):Prop where
 row:w.heap[N]?=some (.cells (exRow 12 Sy.nt Sy.nt Sy.ty0 0 false (.slice sa av.length sc)) 182 (0,0))
 own:w.ownsRow B 94 1 (.slice sa av.length sc) av.length (ptrs av)
 ne:∀ q,(Value.slice sa av.length sc).ownBlock=some q→q≠N
 hN:B≤N
def Kids (w:World) (B N:Nat) (sa:Option Addr) (sc:Nat) (av:List (Option Addr)) (es:List Sy.Ex):Prop :=
 av.length=es.length∧∀ (i:Nat) (a:Option Addr) (e:Sy.Ex),av[i]?=some a→es[i]?=some e→ExD w (Dc B N (.slice sa av.length sc)) a e
theorem Arg.lt {w:World} {B N:Nat} {sa:Option Addr} {sc:Nat} {av:List (Option Addr)} (h:Arg w B N sa sc av):N < w.heap.size:=(Array.getElem?_eq_some_iff.1 h.row).1
theorem Arg.at_ {w w':World} {K:Pk} {τ:Sy.St} {B N:Nat} {sa:Option Addr} {sc:Nat} {av:List (Option Addr)} (h:Arg w B N sa sc av) (hk:At w w' K τ) (hB:K.B≤B):Arg w' B N sa sc av :=
 ⟨(hk.k.block _ h.lt (fun e=>by have e2:N=K.P:=e; have:=hk.p.ord; have:=h.hN; omega)).trans h.row,own_kept h.own (fun q hq=>hk.k.block q (own_ltb h.own hq) (fun e=>by have e2:q=K.P:=e; have:=hk.p.ord; have:=own_lo h.own q hq; omega)),h.ne,h.hN⟩
theorem Kids.at_ {w w':World} {K:Pk} {τ:Sy.St} {B N:Nat} {sa:Option Addr} {sc:Nat} {av:List (Option Addr)} {es:List Sy.Ex} (h:Kids w B N sa sc av es) (hk:At w w' K τ) (hB:K.B≤B):Kids w' B N sa sc av es :=
 ⟨h.1,fun i a e ha he=>(h.2 i a e ha he).keep hk.k (fun q e2=>.inl (fun h2=>by have e3:q=K.P:=e2; have:=hk.p.ord; have:=h2.1; omega))⟩
theorem Arg.no {w w':World} {B N:Nat} {sa:Option Addr} {sc:Nat} {av:List (Option Addr)} (h:Arg w B N sa sc av) (hk:Keeps No w w'):Arg w' B N sa sc av :=
 ⟨(hk.block _ h.lt (fun e=>e)).trans h.row,own_kept h.own (fun q hq=>hk.block q (own_ltb h.own hq) (fun e=>e)),h.ne,h.hN⟩
theorem Kids.no {w w':World} {B N:Nat} {sa:Option Addr} {sc:Nat} {av:List (Option Addr)} {es:List Sy.Ex} (h:Kids w B N sa sc av es) (hk:Keeps No w w'):Kids w' B N sa sc av es :=
 ⟨h.1,fun i a e ha he=>(h.2 i a e ha he).keep hk (fun q e=>e.elim)⟩
theorem Arg.push {v2 v3:World} {B N:Nat} {sa:Option Addr} {sc g' cap:Nat} {av:List (Option Addr)} {a2:Option Addr} (h:Arg v2 B N sa sc av) (hk:Keeps (fun q=>(Value.slice sa av.length sc).ownBlock=some q) v2 v3)
    (ho:v3.ownsRow B 94 1 (.slice (some ⟨g',0,none⟩) (av.length+1) cap) (av.length+1) (ptrs av++[.pointer a2])) (hg:(Value.slice sa av.length sc).ownBlock=some g'∨v2.heap.size≤g') :
    Arg (v3.setCell ⟨N,7,none⟩ (.slice (some ⟨g',0,none⟩) (av.length+1) cap)) B N (some ⟨g',0,none⟩) cap (av++[a2]):=by
 have hn:∀ q,(Value.slice (some ⟨g',0,none⟩) (av.length+1) cap).ownBlock=some q→q≠N:=fun q hq e=>by
  have e1:g'=q:=by injection hq
  rcases hg with hg | hg
  · exact h.ne g' hg (by omega)
  · have:=h.lt; omega
 have hN3:v3.heap[N]?=some (.cells (exRow 12 Sy.nt Sy.nt Sy.ty0 0 false (.slice sa av.length sc)) 182 (0,0)):=(hk.block _ h.lt (fun e=>h.ne N e rfl)).trans h.row;have hl:(av++[a2]).length=av.length+1:=by simp
 refine ⟨?_,?_,by rw [hl]; exact hn,h.hN⟩
 · rw [heap_setCell_same v3 N 7 _ _ _ hN3,hl]; rfl
 · rw [hl];have e:ptrs (av++[a2])=ptrs av++[.pointer a2]:=by unfold ptrs; rw [List.map_append]; rfl
   rw [e];exact own_kept ho (fun q hq=>Below.heap_setCell _ _ _ _ (fun e=>hn q hq (by simpa using e)))
theorem Kids.push {v2 v3:World} {B N:Nat} {sa:Option Addr} {sc g' cap:Nat} {av:List (Option Addr)} {a2:Option Addr} {es:List Sy.Ex} {e2:Sy.Ex} (h:Kids v2 B N sa sc av es) (hk:Keeps (fun q=>(Value.slice sa av.length sc).ownBlock=some q) v2 v3)
    (hg:(Value.slice sa av.length sc).ownBlock=some g'∨v2.heap.size≤g') (h2:ExD v2 (Dc B N (.slice sa av.length sc)) a2 e2) :
    Kids (v3.setCell ⟨N,7,none⟩ (.slice (some ⟨g',0,none⟩) (av.length+1) cap)) B N (some ⟨g',0,none⟩) cap (av++[a2]) (es++[e2]):=by
 have one:∀ a e,ExD v2 (Dc B N (.slice sa av.length sc)) a e→ExD (v3.setCell ⟨N,7,none⟩ (.slice (some ⟨g',0,none⟩) (av.length+1) cap)) (Dc B N (.slice (some ⟨g',0,none⟩) (av++[a2]).length cap)) a e:=fun a e hx=>by
  have h3:ExD v2 (fun q=>Dc B N (.slice sa av.length sc) q∧q≠g') a e:=hx.mono (fun q hq hd=>⟨hd,fun e=>by
   rcases hg with hg | hg
   · exact hd.2.2 (by rw [e]; exact hg)
   · omega⟩)
  have h4:=h3.keep hk (fun q e=>.inl (fun hd=>hd.1.2.2 e));have h5:=h4.keep ((Keeps.refl (fun q=>q=N) v3).setCell (p:=⟨N,7,none⟩) (.inl rfl) (.slice (some ⟨g',0,none⟩) (av.length+1) cap)) (fun q e=>.inl (fun hd=>hd.1.2.1 e));exact h5.mono (fun q _ hd=>⟨hd.1.1,hd.1.2.1,fun e=>by
   have e1:g'=q:=by injection e
   exact hd.2 e1.symm⟩)
 refine ⟨by rw [List.length_append,List.length_append,h.1]; rfl,fun i a e ha he=>?_⟩;by_cases hi:i < av.length
 · rw [List.getElem?_append_left hi] at ha;rw [List.getElem?_append_left (by rw [← h.1]; exact hi)] at he;exact one a e (h.2 i a e ha he)
 · rw [List.getElem?_append_right (by omega)] at ha;rw [List.getElem?_append_right (by rw [← h.1]; omega),← h.1] at he;cases hj:i - av.length with
   | zero =>
     rw [hj] at ha he;obtain rfl:a2=a:=by simpa using ha
     obtain rfl:e2=e:=by simpa using he
     exact one _ _ h2
   | succ j=>rw [hj] at ha; cases ha
theorem Arg.fin {w:World} {B N:Nat} {sa:Option Addr} {sc:Nat} {av:List (Option Addr)} {es:List Sy.Ex} (h:Arg w B N sa sc av) (hk:Kids w B N sa sc av es):ExAt w B (some ⟨N,0,none⟩) (.mk 12 Sy.nt Sy.nt Sy.ty0 0 false es) :=
 ExAt.node N sa sc av _ _ _ _ _ _ _ h.hN h.row h.own hk.1 (fun i a e ha he=>(hk.2 i a e ha he).mono (fun q _ hd=>hd.1))
theorem post_step (K:Pk) (f:Nat) (ih:∀ g,g < f→AllC K g):PostC K f:=by
 intro σ w a0 e0 B hKB hBw hex0 h hf;have HIH:=zz ih;have HS:=zz h;have HKB:=zz (And.intro hKB hBw);have HX0:=zz hex0;have HF0:=zz hf;clear ih hex0 h hf;go_enter Tryz.func129,Tryz.ntmps129;go_wp2_with fail;go_loopg [1] (rem K σ) (fun m v wr=>∃ (g:Nat) (a:Option Addr) (e:Sy.Ex) (τ:Sy.St),v=.pointer a∧m=rem K τ∧Hid (Sy.E K.C g (.post e) τ=Sy.E K.C f (.post e0) σ∧10 * rem K τ+3≤g∧g≤f)∧Hid (At w wr K τ)∧Hid (τ.code=0→ExAt wr B a e))
 case atStart=>exact ⟨f,a0,e0,σ,rfl,rfl,zz ⟨rfl,HF0.out,Nat.le_refl _⟩,zz (At.of_no HS.out (Keeps.refl _ _)),HX0⟩
 case round =>
  obtain ⟨g,a,e,τ,rfl,hg,HE,HAT,HEX⟩:=hrel;obtain ⟨g,rfl⟩:∃ q,g=q+1:=⟨g - 1,by have:=HE.out.2.1; omega⟩;have hle:=HAT.out.p.le;obtain ⟨i1,h1⟩:∃ b,Sy.isM K.C τ ⟨#[91]⟩=b:=⟨_,rfl⟩;obtain ⟨i2,h2⟩:∃ b,Sy.isM K.C τ ⟨#[46]⟩=b:=⟨_,rfl⟩;obtain ⟨i3,h3⟩:∃ b,Sy.isM K.C τ ⟨#[45,62]⟩=b:=⟨_,rfl⟩;obtain ⟨i4,h4⟩:∃ b,Sy.isM K.C τ ⟨#[40]⟩=b:=⟨_,rfl⟩;have HT1:=zz (fun W (hs:PS W K τ)=>take_any K τ ⟨#[91]⟩ i1 h1 W hs);have HT2:=zz (fun W (hs:PS W K τ)=>take_any K τ ⟨#[46]⟩ i2 h2 W hs);have HT3:=zz (fun W (hs:PS W K τ)=>take_any K τ ⟨#[45,62]⟩ i3 h3 W hs);have HT4:=zz (fun W (hs:PS W K τ)=>take_any K τ ⟨#[40]⟩ i4 h4 W hs);obtain ⟨υ,hυ⟩:∃ υ,Sy.nextM K.C τ=υ:=⟨_,rfl⟩;have hm2:Sy.Mo K.C τ υ:=by rw [← hυ]; exact (Sy.Mo.refl hle).next
  rw [hυ] at HT1 HT2 HT3 HT4;have hge:=HE.out.2.1;have hgf:=HE.out.2.2;cases i1 with
  | true =>
    have hrn:=rem_next (Sy.is_lt h1 (by decide));rw [hυ] at hrn;have HX:=zz (fun W (hs:PS W K υ)=>(HIH.out g (by omega)).expr υ W hs (by omega));obtain ⟨r2,hr2⟩:∃ r,Sy.E K.C g .expr υ=r:=⟨_,rfl⟩;have hm3:Sy.Mo K.C υ r2.2:=by rw [← hr2]; exact Sy.E_mo g _ υ hm2.le
    rw [hr2] at HX;obtain ⟨e2,φ⟩:=r2;simp only at hm3;obtain ⟨ψ,hψ⟩:∃ ψ,Sy.wantM K.C φ ⟨#[93]⟩=ψ:=⟨_,rfl⟩;have hm4:Sy.Mo K.C φ ψ:=by rw [← hψ]; exact (Sy.Mo.refl hm3.le).want _
    have HW:=zz (fun W (hs:PS W K φ)=>want_any K φ ⟨#[93]⟩ W hs);rw [hψ] at HW;have hr3:=rem_mo hm3;have hr4:=rem_mo hm4;have HE2:Hid (Sy.E K.C g (.post (.mk 9 Sy.nt Sy.nt Sy.ty0 0 false [e,e2])) ψ=Sy.E K.C f (.post e0) σ∧10 * rem K ψ+3≤g∧g≤f):=zz (by
     refine ⟨?_,by omega,by omega⟩;rw [← HE.out.1]
     conv=>rhs; unfold Sy.E
     simp only [h1,hυ,hr2,hψ,if_true])
    have HCD:Hid ((ψ.code=0→φ.code=0)∧(φ.code=0→υ.code=0)∧(υ.code=0→τ.code=0)):=zz ⟨hm4.code,hm3.code,hm2.code⟩;have hms:rem K ψ < rem K τ:=by omega
    clear h1 h2 h3 h4 hυ hm2 hr2 hm3 hψ hm4 hr3 hr4 hrn hge hgf hle;go_wp2_with fail;refine (HT1.out wr HAT.out.p).mono ?_;rintro e' w1 ⟨rfl,hat⟩;have hat2:At wr w1 K υ:=hat;have HA1:=zz (HAT.out.trans hat2);have HX1:Hid (υ.code=0→ExAt w1 B a e):=zz (fun hc=>(HEX.out (HCD.out.2.2 hc)).at_ hat2 HKB.out.1);clear hat hat2;go_wp2_with fail;refine (HX.out w1 HA1.out.p).mono ?_;rintro e' w2 ⟨a2,rfl,hat,hex⟩;have HA2:=zz (HA1.out.trans hat);have HX2:Hid (φ.code=0→ExAt w2 B a e∧ExAt w2 B a2 e2):=zz (fun hc=>⟨(HX1.out (HCD.out.2.1 hc)).at_ hat HKB.out.1,(hex hc).mono (Nat.le_trans HKB.out.2 HA1.out.k.size)⟩);clear hat hex;go_upto_region 4 with fail
    have hxn:φ.code=0→ExAt ((w2.alloc (.cells #[.pointer a,.pointer a2] 94)).alloc (.cells #[.int .i64 9,.string ⟨#[]⟩,.string ⟨#[]⟩,.string ⟨#[]⟩,.int .i64 0,.int .u64 0,.bool false,.slice (some ⟨w2.heap.size,0,none⟩) 2 2] 182)) B (some ⟨w2.heap.size+1,0,none⟩) (.mk 9 Sy.nt Sy.nt Sy.ty0 0 false [e,e2]):=fun hc =>
     ex_node w2 B (Nat.le_trans HKB.out.2 HA2.out.k.size) [a,a2] [e,e2] rfl (by simp) 9 Sy.nt Sy.nt Sy.ty0 0 false (two_at (HX2.out hc).1 (HX2.out hc).2)
    have han:At w ((w2.alloc (.cells #[.pointer a,.pointer a2] 94)).alloc (.cells #[.int .i64 9,.string ⟨#[]⟩,.string ⟨#[]⟩,.string ⟨#[]⟩,.int .i64 0,.int .u64 0,.bool false,.slice (some ⟨w2.heap.size,0,none⟩) 2 2] 182)) K φ:=HA2.out.no (((Keeps.refl _ _).alloc _).alloc _);generalize (w2.alloc (.cells #[.pointer a,.pointer a2] 94)).alloc (.cells #[.int .i64 9,.string ⟨#[]⟩,.string ⟨#[]⟩,.string ⟨#[]⟩,.int .i64 0,.int .u64 0,.bool false,.slice (some ⟨w2.heap.size,0,none⟩) 2 2] 182)=w3 at hxn han ⊢;have HX3:=zz hxn;have HA3:=zz han;clear hxn han;go_wp2_with fail;refine (HW.out w3 HA3.out.p).mono ?_;rintro e' w4 ⟨rfl,hat⟩;have HA4:=zz (HA3.out.trans hat);have HX4:Hid (ψ.code=0→ExAt w4 B (some ⟨w2.heap.size+1,0,none⟩) (.mk 9 Sy.nt Sy.nt Sy.ty0 0 false [e,e2])):=zz (fun hc=>(HX3.out (HCD.out.1 hc)).at_ hat HKB.out.1);clear hat;go_wp2_with fail;go_roundg (rem K ψ)
    case rel=>exact ⟨g,_,_,ψ,rfl,rfl,HE2,HA4,HX4⟩
    case measure=>omega
  | false =>
    cases i2 with
    | true =>
      have hrn:=rem_next (Sy.is_lt h2 (by decide));rw [hυ] at hrn;obtain ⟨r2,hr2⟩:∃ r,Sy.nameM K.C υ=r:=⟨_,rfl⟩;have hm3:Sy.Mo K.C υ r2.2:=by rw [← hr2]; exact (Sy.Mo.refl hm2.le).name
      obtain ⟨nm,φ⟩:=r2;simp only at hm3;have HX:=zz (fun W (hs:PS W K υ)=>name_as K υ nm φ hr2 W hs);have hr3:=rem_mo hm3;have HE2:Hid (Sy.E K.C g (.post (.mk 10 Sy.nt nm Sy.ty0 0 false [e])) φ=Sy.E K.C f (.post e0) σ∧10 * rem K φ+3≤g∧g≤f):=zz (by
       refine ⟨?_,by omega,by omega⟩;rw [← HE.out.1]
       conv=>rhs; unfold Sy.E
       simp only [h1,h2,hυ,hr2,if_true,if_neg (show ¬ (false=true) by decide)])
      have HCD:Hid ((φ.code=0→υ.code=0)∧(υ.code=0→τ.code=0)):=zz ⟨hm3.code,hm2.code⟩;have hms:rem K φ < rem K τ:=by omega
      clear h1 h2 h3 h4 hυ hm2 hr2 hm3 hr3 hrn hge hgf hle;go_wp2_with fail;refine (HT1.out wr HAT.out.p).mono ?_;rintro e' w1 ⟨rfl,hat⟩;have hat2:At wr w1 K τ:=hat;have HA1:=zz (HAT.out.trans hat2);have HX1:Hid (τ.code=0→ExAt w1 B a e):=zz (fun hc=>(HEX.out hc).at_ hat2 HKB.out.1);clear hat hat2;go_wp2_with fail;refine (HT2.out w1 HA1.out.p).mono ?_;rintro e' w2 ⟨rfl,hat⟩;have hat2:At w1 w2 K υ:=hat;have HA2:=zz (HA1.out.trans hat2);have HX2:Hid (υ.code=0→ExAt w2 B a e):=zz (fun hc=>(HX1.out (HCD.out.2 hc)).at_ hat2 HKB.out.1);clear hat hat2;go_wp2_with fail;refine (HX.out w2 HA2.out.p).mono ?_;rintro e' w6 ⟨rfl,hat⟩;have HA6:=zz (HA2.out.trans hat);have HX6:Hid (φ.code=0→ExAt w6 B a e):=zz (fun hc=>(HX2.out (HCD.out.1 hc)).at_ hat HKB.out.1);clear hat;go_wp2_with fail;have hxn:φ.code=0→ExAt ((w6.alloc (.cells #[.pointer a] 94)).alloc (.cells #[.int .i64 10,.string ⟨#[]⟩,.string nm,.string ⟨#[]⟩,.int .i64 0,.int .u64 0,.bool false,.slice (some ⟨w6.heap.size,0,none⟩) 1 1] 182)) B (some ⟨w6.heap.size+1,0,none⟩) (.mk 10 Sy.nt nm Sy.ty0 0 false [e]):=fun hc =>
       ex_node w6 B (Nat.le_trans HKB.out.2 HA6.out.k.size) [a] [e] rfl (by simp) 10 Sy.nt nm Sy.ty0 0 false (one_at (HX6.out hc))
      have han:At w ((w6.alloc (.cells #[.pointer a] 94)).alloc (.cells #[.int .i64 10,.string ⟨#[]⟩,.string nm,.string ⟨#[]⟩,.int .i64 0,.int .u64 0,.bool false,.slice (some ⟨w6.heap.size,0,none⟩) 1 1] 182)) K φ:=HA6.out.no (((Keeps.refl _ _).alloc _).alloc _);generalize (w6.alloc (.cells #[.pointer a] 94)).alloc (.cells #[.int .i64 10,.string ⟨#[]⟩,.string nm,.string ⟨#[]⟩,.int .i64 0,.int .u64 0,.bool false,.slice (some ⟨w6.heap.size,0,none⟩) 1 1] 182)=w7 at hxn han ⊢;have HX7:=zz hxn;have HA7:=zz han;clear hxn han;go_roundg (rem K φ)
      case rel=>exact ⟨g,_,_,φ,rfl,rfl,HE2,HA7,HX7⟩
      case measure=>omega
    | false =>
      cases i3 with
      | true =>
        have hrn:=rem_next (Sy.is_lt h3 (by decide));rw [hυ] at hrn;obtain ⟨r2,hr2⟩:∃ r,Sy.nameM K.C υ=r:=⟨_,rfl⟩;have hm3:Sy.Mo K.C υ r2.2:=by rw [← hr2]; exact (Sy.Mo.refl hm2.le).name
        obtain ⟨nm,φ⟩:=r2;simp only at hm3;have HX:=zz (fun W (hs:PS W K υ)=>name_as K υ nm φ hr2 W hs);have hr3:=rem_mo hm3;have HE2:Hid (Sy.E K.C g (.post (.mk 11 Sy.nt nm Sy.ty0 0 false [e])) φ=Sy.E K.C f (.post e0) σ∧10 * rem K φ+3≤g∧g≤f):=zz (by
         refine ⟨?_,by omega,by omega⟩;rw [← HE.out.1]
         conv=>rhs; unfold Sy.E
         simp only [h1,h2,h3,hυ,hr2,if_true,if_neg (show ¬ (false=true) by decide)])
        have HCD:Hid ((φ.code=0→υ.code=0)∧(υ.code=0→τ.code=0)):=zz ⟨hm3.code,hm2.code⟩;have hms:rem K φ < rem K τ:=by omega
        clear h1 h2 h3 h4 hυ hm2 hr2 hm3 hr3 hrn hge hgf hle;go_wp2_with fail;refine (HT1.out wr HAT.out.p).mono ?_;rintro e' w1 ⟨rfl,hat⟩;have hat2:At wr w1 K τ:=hat;have HA1:=zz (HAT.out.trans hat2);have HX1:Hid (τ.code=0→ExAt w1 B a e):=zz (fun hc=>(HEX.out hc).at_ hat2 HKB.out.1);clear hat hat2;go_wp2_with fail;refine (HT2.out w1 HA1.out.p).mono ?_;rintro e' w2 ⟨rfl,hat⟩;have hat2:At w1 w2 K τ:=hat;have HA2:=zz (HA1.out.trans hat2);have HX2:Hid (τ.code=0→ExAt w2 B a e):=zz (fun hc=>(HX1.out hc).at_ hat2 HKB.out.1);clear hat hat2;go_wp2_with fail;refine (HT3.out w2 HA2.out.p).mono ?_;rintro e' w3 ⟨rfl,hat⟩;have hat2:At w2 w3 K υ:=hat;have HA3:=zz (HA2.out.trans hat2);have HX3:Hid (υ.code=0→ExAt w3 B a e):=zz (fun hc=>(HX2.out (HCD.out.2 hc)).at_ hat2 HKB.out.1);clear hat hat2;go_wp2_with fail;refine (HX.out w3 HA3.out.p).mono ?_;rintro e' w6 ⟨rfl,hat⟩;have HA6:=zz (HA3.out.trans hat);have HX6:Hid (φ.code=0→ExAt w6 B a e):=zz (fun hc=>(HX3.out (HCD.out.1 hc)).at_ hat HKB.out.1);clear hat;go_wp2_with fail;have hxn:φ.code=0→ExAt ((w6.alloc (.cells #[.pointer a] 94)).alloc (.cells #[.int .i64 11,.string ⟨#[]⟩,.string nm,.string ⟨#[]⟩,.int .i64 0,.int .u64 0,.bool false,.slice (some ⟨w6.heap.size,0,none⟩) 1 1] 182)) B (some ⟨w6.heap.size+1,0,none⟩) (.mk 11 Sy.nt nm Sy.ty0 0 false [e]):=fun hc =>
         ex_node w6 B (Nat.le_trans HKB.out.2 HA6.out.k.size) [a] [e] rfl (by simp) 11 Sy.nt nm Sy.ty0 0 false (one_at (HX6.out hc))
        have han:At w ((w6.alloc (.cells #[.pointer a] 94)).alloc (.cells #[.int .i64 11,.string ⟨#[]⟩,.string nm,.string ⟨#[]⟩,.int .i64 0,.int .u64 0,.bool false,.slice (some ⟨w6.heap.size,0,none⟩) 1 1] 182)) K φ:=HA6.out.no (((Keeps.refl _ _).alloc _).alloc _);generalize (w6.alloc (.cells #[.pointer a] 94)).alloc (.cells #[.int .i64 11,.string ⟨#[]⟩,.string nm,.string ⟨#[]⟩,.int .i64 0,.int .u64 0,.bool false,.slice (some ⟨w6.heap.size,0,none⟩) 1 1] 182)=w7 at hxn han ⊢;have HX7:=zz hxn;have HA7:=zz han;clear hxn han;go_roundg (rem K φ)
        case rel=>exact ⟨g,_,_,φ,rfl,rfl,HE2,HA7,HX7⟩
        case measure=>omega
      | false =>
        cases i4 with
        | false =>
          have HFIN:Hid (Sy.E K.C f (.post e0) σ=(e,τ)):=zz (by
           rw [← HE.out.1]
           conv=>lhs; unfold Sy.E
           simp only [h1,h2,h3,h4,if_neg (show ¬ (false=true) by decide)])
          clear h1 h2 h3 h4 hυ hm2 hge hgf hle;go_wp2_with fail;refine (HT1.out wr HAT.out.p).mono ?_;rintro e' w1 ⟨rfl,hat⟩;have hat2:At wr w1 K τ:=hat;have HA1:=zz (HAT.out.trans hat2);have HX1:Hid (τ.code=0→ExAt w1 B a e):=zz (fun hc=>(HEX.out hc).at_ hat2 HKB.out.1);clear hat hat2;go_wp2_with fail;refine (HT2.out w1 HA1.out.p).mono ?_;rintro e' w2 ⟨rfl,hat⟩;have hat2:At w1 w2 K τ:=hat;have HA2:=zz (HA1.out.trans hat2);have HX2:Hid (τ.code=0→ExAt w2 B a e):=zz (fun hc=>(HX1.out hc).at_ hat2 HKB.out.1);clear hat hat2;go_wp2_with fail;refine (HT3.out w2 HA2.out.p).mono ?_;rintro e' w3 ⟨rfl,hat⟩;have hat2:At w2 w3 K τ:=hat;have HA3:=zz (HA2.out.trans hat2);have HX3:Hid (τ.code=0→ExAt w3 B a e):=zz (fun hc=>(HX2.out hc).at_ hat2 HKB.out.1);clear hat hat2;go_wp2_with fail;refine (HT4.out w3 HA3.out.p).mono ?_;rintro e' w4 ⟨rfl,hat⟩;have hat2:At w3 w4 K τ:=hat;have HA4:=zz (HA3.out.trans hat2);have HX4:Hid (τ.code=0→ExAt w4 B a e):=zz (fun hc=>(HX3.out hc).at_ hat2 HKB.out.1);clear hat hat2;go_wp2_with fail;go_returns;exact ⟨_,rfl,by rw [HFIN.out]; exact HA4.out,by rw [HFIN.out]; exact HX4.out⟩
        | true =>
          have hrn:=rem_next (Sy.is_lt h4 (by decide));rw [hυ] at hrn;obtain ⟨b5,h5⟩:∃ b,Sy.isM K.C υ ⟨#[41]⟩=b:=⟨_,rfl⟩;have HT5:=zz (fun W (hs:PS W K υ)=>take_any K υ ⟨#[41]⟩ b5 h5 W hs);cases b5 with
          | true =>
            obtain ⟨χ,hχ⟩:∃ χ,Sy.nextM K.C υ=χ:=⟨_,rfl⟩;have hm3:Sy.Mo K.C υ χ:=by rw [← hχ]; exact (Sy.Mo.refl hm2.le).next
            rw [hχ] at HT5;have hr3:=rem_mo hm3;have HE2:Hid (Sy.E K.C g (.post (.mk 12 Sy.nt Sy.nt Sy.ty0 0 false [e])) χ=Sy.E K.C f (.post e0) σ∧10 * rem K χ+3≤g∧g≤f):=zz (by
             refine ⟨?_,by omega,by omega⟩;rw [← HE.out.1]
             conv=>rhs; unfold Sy.E
             simp only [h1,h2,h3,h4,hυ,h5,hχ,if_true,if_neg (show ¬ (false=true) by decide)])
            have HCD:Hid (χ.code=0→υ.code=0):=zz hm3.code;have HCU:Hid (υ.code=0→τ.code=0):=zz hm2.code;have hms:rem K χ < rem K τ:=by omega
            clear h1 h2 h3 h4 h5 hυ hm2 hm3 hr3 hrn hge hgf hle hχ;go_wp2_with fail;refine (HT1.out wr HAT.out.p).mono ?_;rintro e' w1 ⟨rfl,hat⟩;have hat2:At wr w1 K τ:=hat;have HA1:=zz (HAT.out.trans hat2);have HX1:Hid (τ.code=0→ExAt w1 B a e):=zz (fun hc=>(HEX.out hc).at_ hat2 HKB.out.1);clear hat hat2;go_wp2_with fail;refine (HT2.out w1 HA1.out.p).mono ?_;rintro e' w2 ⟨rfl,hat⟩;have hat2:At w1 w2 K τ:=hat;have HA2:=zz (HA1.out.trans hat2);have HX2:Hid (τ.code=0→ExAt w2 B a e):=zz (fun hc=>(HX1.out hc).at_ hat2 HKB.out.1);clear hat hat2;go_wp2_with fail;refine (HT3.out w2 HA2.out.p).mono ?_;rintro e' w3 ⟨rfl,hat⟩;have hat2:At w2 w3 K τ:=hat;have HA3:=zz (HA2.out.trans hat2);have HX3:Hid (τ.code=0→ExAt w3 B a e):=zz (fun hc=>(HX2.out hc).at_ hat2 HKB.out.1);clear hat hat2;go_wp2_with fail;refine (HT4.out w3 HA3.out.p).mono ?_;rintro e' w4 ⟨rfl,hat⟩;have hat2:At w3 w4 K υ:=hat;have HA4:=zz (HA3.out.trans hat2);have HX4:Hid (υ.code=0→ExAt w4 B a e):=zz (fun hc=>(HX3.out (HCU.out hc)).at_ hat2 HKB.out.1);clear hat hat2;go_upto_region 11 with fail
            have hk5:Keeps No w4 ((w4.alloc (.cells #[.pointer a] 94)).alloc (.cells #[.int .i64 12,.string ⟨#[]⟩,.string ⟨#[]⟩,.string ⟨#[]⟩,.int .i64 0,.int .u64 0,.bool false,.slice (some ⟨w4.heap.size,0,none⟩) 1 1] 182)):=((Keeps.refl _ _).alloc _).alloc _;have hn5:((w4.alloc (.cells #[.pointer a] 94)).alloc (.cells #[.int .i64 12,.string ⟨#[]⟩,.string ⟨#[]⟩,.string ⟨#[]⟩,.int .i64 0,.int .u64 0,.bool false,.slice (some ⟨w4.heap.size,0,none⟩) 1 1] 182)).heap[w4.heap.size+1]?=some (.cells (exRow 12 Sy.nt Sy.nt Sy.ty0 0 false (.slice (some ⟨w4.heap.size,0,none⟩) 1 1)) 182 (0,0)):=by
             have e5:w4.heap.size+1=(w4.alloc (.cells #[.pointer a] 94)).heap.size:=by simp
             rw [e5]; exact heap_alloc_new _ _
            have ho5:((w4.alloc (.cells #[.pointer a] 94)).alloc (.cells #[.int .i64 12,.string ⟨#[]⟩,.string ⟨#[]⟩,.string ⟨#[]⟩,.int .i64 0,.int .u64 0,.bool false,.slice (some ⟨w4.heap.size,0,none⟩) 1 1] 182)).ownsRow B 94 1 (.slice (some ⟨w4.heap.size,0,none⟩) 1 1) 1 (ptrs [a]) :=
             World.ownsRow.alloc (w:=w4.alloc (.cells #[.pointer a] 94)) ⟨rfl,.inr ⟨w4.heap.size,1,#[.pointer a],rfl,Nat.le_trans HKB.out.2 HA4.out.k.size,heap_alloc_new _ _,Nat.le_refl _,by unfold maxLen; omega,rfl,rfl⟩⟩ _
            generalize (w4.alloc (.cells #[.pointer a] 94)).alloc (.cells #[.int .i64 12,.string ⟨#[]⟩,.string ⟨#[]⟩,.string ⟨#[]⟩,.int .i64 0,.int .u64 0,.bool false,.slice (some ⟨w4.heap.size,0,none⟩) 1 1] 182)=w5 at hk5 hn5 ho5 ⊢;have HA5:=zz (HA4.out.no hk5);obtain ⟨N,hN⟩:∃ n,w4.heap.size+1=n:=⟨_,rfl⟩;have HWN:Hid (w.heap.size≤N):=zz (by have:=HA4.out.k.size; omega);have hx5:υ.code=0→ExD w5 (Dc B N (.slice (some ⟨w4.heap.size,0,none⟩) 1 1)) a e:=fun hc=>by
             have h6:ExD w4 (fun q=>B≤q∧q < w4.heap.size) a e:=ExD.mono (HX4.out hc) (fun q hq hd=>⟨hd,hq⟩);exact (h6.keep hk5 (fun _ e=>e.elim)).mono (fun q _ hd=>⟨hd.1,fun e=>by have:=hd.2; omega,fun e=>by
              have e1:w4.heap.size=q:=by injection e
              have:=hd.2; omega⟩)
            obtain ⟨Q4,hQ4⟩:∃ n,w4.heap.size=n:=⟨_,rfl⟩;have HW0Q:Hid (w.heap.size≤Q4):=zz (by have:=HA4.out.k.size; omega);have HG5:Hid (Arg w5 B N (some ⟨Q4,0,none⟩) 1 [a]):=zz ⟨by rw [← hN,← hQ4]; exact hn5,by rw [← hQ4]; exact ho5,fun q hq e=>by
             have e1:Q4=q:=by injection hq
             omega,by have:=HA4.out.k.size; have:=HKB.out.2; omega⟩
            have HD5:Hid (υ.code=0→Kids w5 B N (some ⟨Q4,0,none⟩) 1 [a] [e]):=zz (fun hc=>⟨rfl,fun i a' e' ha he=>by
             cases i with
             | zero =>
               obtain rfl:a=a':=by simpa using ha
               obtain rfl:e=e':=by simpa using he
               rw [← hQ4]; exact hx5 hc
             | succ i=>cases ha⟩)
            rw [hN,hQ4];clear hk5 hn5 ho5 hN hx5 hQ4;go_wp2_with fail;refine (HT5.out w5 HA5.out.p).mono ?_;rintro e' w6 ⟨rfl,hat⟩;have hat2:At w5 w6 K χ:=hat;have HA6:=zz (HA5.out.trans hat2);have HX6:Hid (χ.code=0→ExAt w6 B (some ⟨N,0,none⟩) (.mk 12 Sy.nt Sy.nt Sy.ty0 0 false [e])):=zz (fun hc=>(HG5.out.fin (HD5.out (HCD.out hc))).at_ hat2 HKB.out.1);clear hat hat2;go_wp2_with fail;go_roundg (rem K χ)
            case rel=>exact ⟨g,_,_,χ,rfl,rfl,HE2,HA6,HX6⟩
            case measure=>omega
          | false =>
            have HX:=zz (fun W (hs:PS W K υ)=>(HIH.out g (by omega)).expr υ W hs (by omega));obtain ⟨r2,hr2⟩:∃ r,Sy.E K.C g .expr υ=r:=⟨_,rfl⟩;have hm3:Sy.Mo K.C υ r2.2:=by rw [← hr2]; exact Sy.E_mo g _ υ hm2.le
            rw [hr2] at HX;obtain ⟨e2,φ⟩:=r2;simp only at hm3;have hr3:=rem_mo hm3;have HE1:Hid (∀ es φ2 ψ,Sy.E K.C g (.args (.mk 12 Sy.nt Sy.nt Sy.ty0 0 false [e,e2])) φ=(.mk 12 Sy.nt Sy.nt Sy.ty0 0 false es,φ2)→Sy.wantM K.C φ2 ⟨#[41]⟩=ψ→Sy.E K.C g (.post (.mk 12 Sy.nt Sy.nt Sy.ty0 0 false es)) ψ=Sy.E K.C f (.post e0) σ):=zz (fun es φ2 ψ ha hw=>by
             rw [← HE.out.1]
             conv=>rhs; unfold Sy.E
             simp only [h1,h2,h3,h4,hυ,h5,hr2,ha,hw,if_true,if_neg (show ¬ (false=true) by decide)])
            have HCD:Hid (φ.code=0→υ.code=0):=zz hm3.code;have HCU:Hid (υ.code=0→τ.code=0):=zz hm2.code;have HGB:Hid (10 * rem K φ+3≤g∧g≤f∧rem K φ < rem K τ∧rem K φ≤6000∧g < f):=zz ⟨by omega,by omega,by omega,by have:=HAT.out.p.len; unfold rem; omega,by omega⟩;clear h1 h2 h3 h4 h5 hυ hm2 hr2 hm3 hr3 hrn hge hgf hle;go_wp2_with fail;refine (HT1.out wr HAT.out.p).mono ?_;rintro e' w1 ⟨rfl,hat⟩;have hat2:At wr w1 K τ:=hat;have HA1:=zz (HAT.out.trans hat2);have HX1:Hid (τ.code=0→ExAt w1 B a e):=zz (fun hc=>(HEX.out hc).at_ hat2 HKB.out.1);clear hat hat2;go_wp2_with fail;refine (HT2.out w1 HA1.out.p).mono ?_;rintro e' w2 ⟨rfl,hat⟩;have hat2:At w1 w2 K τ:=hat;have HA2:=zz (HA1.out.trans hat2);have HX2:Hid (τ.code=0→ExAt w2 B a e):=zz (fun hc=>(HX1.out hc).at_ hat2 HKB.out.1);clear hat hat2;go_wp2_with fail;refine (HT3.out w2 HA2.out.p).mono ?_;rintro e' w3 ⟨rfl,hat⟩;have hat2:At w2 w3 K τ:=hat;have HA3:=zz (HA2.out.trans hat2);have HX3:Hid (τ.code=0→ExAt w3 B a e):=zz (fun hc=>(HX2.out hc).at_ hat2 HKB.out.1);clear hat hat2;go_wp2_with fail;refine (HT4.out w3 HA3.out.p).mono ?_;rintro e' w4 ⟨rfl,hat⟩;have hat2:At w3 w4 K υ:=hat;have HA4:=zz (HA3.out.trans hat2);have HX4:Hid (υ.code=0→ExAt w4 B a e):=zz (fun hc=>(HX3.out (HCU.out hc)).at_ hat2 HKB.out.1);clear hat hat2;go_upto_region 11 with fail
            have hk5:Keeps No w4 ((w4.alloc (.cells #[.pointer a] 94)).alloc (.cells #[.int .i64 12,.string ⟨#[]⟩,.string ⟨#[]⟩,.string ⟨#[]⟩,.int .i64 0,.int .u64 0,.bool false,.slice (some ⟨w4.heap.size,0,none⟩) 1 1] 182)):=((Keeps.refl _ _).alloc _).alloc _;have hn5:((w4.alloc (.cells #[.pointer a] 94)).alloc (.cells #[.int .i64 12,.string ⟨#[]⟩,.string ⟨#[]⟩,.string ⟨#[]⟩,.int .i64 0,.int .u64 0,.bool false,.slice (some ⟨w4.heap.size,0,none⟩) 1 1] 182)).heap[w4.heap.size+1]?=some (.cells (exRow 12 Sy.nt Sy.nt Sy.ty0 0 false (.slice (some ⟨w4.heap.size,0,none⟩) 1 1)) 182 (0,0)):=by
             have e5:w4.heap.size+1=(w4.alloc (.cells #[.pointer a] 94)).heap.size:=by simp
             rw [e5]; exact heap_alloc_new _ _
            have ho5:((w4.alloc (.cells #[.pointer a] 94)).alloc (.cells #[.int .i64 12,.string ⟨#[]⟩,.string ⟨#[]⟩,.string ⟨#[]⟩,.int .i64 0,.int .u64 0,.bool false,.slice (some ⟨w4.heap.size,0,none⟩) 1 1] 182)).ownsRow B 94 1 (.slice (some ⟨w4.heap.size,0,none⟩) 1 1) 1 (ptrs [a]) :=
             World.ownsRow.alloc (w:=w4.alloc (.cells #[.pointer a] 94)) ⟨rfl,.inr ⟨w4.heap.size,1,#[.pointer a],rfl,Nat.le_trans HKB.out.2 HA4.out.k.size,heap_alloc_new _ _,Nat.le_refl _,by unfold maxLen; omega,rfl,rfl⟩⟩ _
            generalize (w4.alloc (.cells #[.pointer a] 94)).alloc (.cells #[.int .i64 12,.string ⟨#[]⟩,.string ⟨#[]⟩,.string ⟨#[]⟩,.int .i64 0,.int .u64 0,.bool false,.slice (some ⟨w4.heap.size,0,none⟩) 1 1] 182)=w5 at hk5 hn5 ho5 ⊢;have HA5:=zz (HA4.out.no hk5);obtain ⟨N,hN⟩:∃ n,w4.heap.size+1=n:=⟨_,rfl⟩;have HWN:Hid (w.heap.size≤N):=zz (by have:=HA4.out.k.size; omega);have hx5:υ.code=0→ExD w5 (Dc B N (.slice (some ⟨w4.heap.size,0,none⟩) 1 1)) a e:=fun hc=>by
             have h6:ExD w4 (fun q=>B≤q∧q < w4.heap.size) a e:=ExD.mono (HX4.out hc) (fun q hq hd=>⟨hd,hq⟩);exact (h6.keep hk5 (fun _ e=>e.elim)).mono (fun q _ hd=>⟨hd.1,fun e=>by have:=hd.2; omega,fun e=>by
              have e1:w4.heap.size=q:=by injection e
              have:=hd.2; omega⟩)
            obtain ⟨Q4,hQ4⟩:∃ n,w4.heap.size=n:=⟨_,rfl⟩;have HW0Q:Hid (w.heap.size≤Q4):=zz (by have:=HA4.out.k.size; omega);have HG5:Hid (Arg w5 B N (some ⟨Q4,0,none⟩) 1 [a]):=zz ⟨by rw [← hN,← hQ4]; exact hn5,by rw [← hQ4]; exact ho5,fun q hq e=>by
             have e1:Q4=q:=by injection hq
             omega,by have:=HA4.out.k.size; have:=HKB.out.2; omega⟩
            have HD5:Hid (υ.code=0→Kids w5 B N (some ⟨Q4,0,none⟩) 1 [a] [e]):=zz (fun hc=>⟨rfl,fun i a' e' ha he=>by
             cases i with
             | zero =>
               obtain rfl:a=a':=by simpa using ha
               obtain rfl:e=e':=by simpa using he
               rw [← hQ4]; exact hx5 hc
             | succ i=>cases ha⟩)
            rw [hN,hQ4];clear hk5 hn5 ho5 hN hx5 hQ4;go_wp2_with fail;refine (HT5.out w5 HA5.out.p).mono ?_;rintro e' w6 ⟨rfl,hat⟩;have hat2:At w5 w6 K υ:=hat;have HA6:=zz (HA5.out.trans hat2);have HG6:=zz (HG5.out.at_ hat2 HKB.out.1);have HD6:Hid (υ.code=0→Kids w6 B N (some ⟨Q4,0,none⟩) 1 [a] [e]):=zz (fun hc=>(HD5.out hc).at_ hat2 HKB.out.1);have HW0:Hid (∀ q,(Value.slice (some ⟨Q4,0,none⟩) [a].length 1).ownBlock=some q→w.heap.size≤q):=zz (fun q hq=>by
             have e1:Q4=q:=by injection hq
             have:=HW0Q.out; omega)
            clear hat hat2;go_upto_region 12 with fail
            have HSS:Hid (∀ q,(q=K.P∨(Value.slice (some ⟨Q4,0,none⟩) [a].length 1).ownBlock=some q)→q≠N):=zz (fun q hq e=>by
             rcases hq with hq | hq
             · have:=HS.out.ord; have:=HG6.out.hN; have:=HKB.out.1; omega
             · exact HG6.out.ne q hq e)
            have p7:∀ u:KS (fun q=>q=K.P∨(Value.slice (some ⟨Q4,0,none⟩) [a].length 1).ownBlock=some q) w6,u.W.cell? ⟨N,7,none⟩=some (.slice (some ⟨Q4,0,none⟩) [a].length 1):=fun u=>u.cell (by rw [cell_of_row w6 N 7 _ _ _ HG6.out.row]; rfl) (fun e=>HSS.out N e rfl)
            have hne:Nonempty (KS (fun q=>q=K.P∨(Value.slice (some ⟨Q4,0,none⟩) [a].length 1).ownBlock=some q) w6):=⟨⟨w6,Keeps.refl _ _⟩⟩;refine Mix.wp_region_mix (fun W'=>∃ u:KS (fun q=>q=K.P∨(Value.slice (some ⟨Q4,0,none⟩) [a].length 1).ownBlock=some q) w6,W'=u.W) [11] (by kernel_rfl) ?_;have HV0:Hid (Keeps No w6 w6.drew):=zz ((Keeps.refl _ w6).drew);generalize w6.drew=v0 at HV0 ⊢;have HC0:Hid (Keeps (fun q=>q=K.P∨(Value.slice (some ⟨Q4,0,none⟩) [a].length 1).ownBlock=some q) w6 v0):=zz (HV0.out.mono (fun _ _ e=>e.elim));have HAV0:=zz (HA6.out.no HV0.out);have HGV0:=zz (HG6.out.no HV0.out);have HKV0:=zz (fun hc=>(HD6.out hc).no HV0.out);refine Mix.mix_seg 0 6 6 (by kernel_rfl) (by kernel_rfl) rfl rfl ⟨⟨v0,HC0.out⟩,rfl⟩ ?_;simp only [zp1,zp2,zp3,zp4]
            repeat (go_big_quiet_step (fail))
            refine wpQuiet_nil ?_;clear p7;refine Mix.mix_one 6 5 (by kernel_rfl) rfl rfl ?_;simp only [zp1,zp2,zp3,zp4];go_wp2_with fail;refine (HX.out v0 HAV0.out.p).mono ?_;rintro e' v1 ⟨a2,rfl,hat,hex⟩;have HC1:Hid (Keeps (fun q=>q=K.P∨(Value.slice (some ⟨Q4,0,none⟩) [a].length 1).ownBlock=some q) w6 v1):=zz (HC0.out.trans hat.k (fun q _ e=>.inl e));have HAV1:=zz (HAV0.out.trans hat);have HGV1:=zz (HGV0.out.at_ hat HKB.out.1);have HKV1:Hid (φ.code=0→Kids v1 B N (some ⟨Q4,0,none⟩) 1 [a] [e]∧ExD v1 (Dc B N (.slice (some ⟨Q4,0,none⟩) [a].length 1)) a2 e2):=zz (fun hc=>⟨(HKV0.out (HCD.out hc)).at_ hat HKB.out.1,ExD.mono (hex hc) (fun q _ hd=>⟨Nat.le_trans HKB.out.2 (Nat.le_trans HAV0.out.k.size hd),fun e=>by have h5:v0.heap.size≤q:=hd; have:=HGV0.out.lt; omega,fun e=>by have h5:v0.heap.size≤q:=hd; have:=own_ltb HGV0.out.own e; omega⟩)⟩);clear hat hex;go_wp2_with fail;refine ⟨.inr ⟨⟨v1,HC1.out⟩,rfl⟩,?_⟩;refine Mix.mix_one 7 4 (by kernel_rfl) rfl rfl ?_;simp only [zp1,zp2,zp3,zp4];go_wp2_with fail;have hk12:Keeps No v1 (v1.alloc (.cells #[.pointer a2] 94)):=(Keeps.refl _ _).alloc _;have hq2:(v1.alloc (.cells #[.pointer a2] 94)).heap[v1.heap.size]?=some (.cells #[.pointer a2] 94 (0,0)):=heap_alloc_new _ _;generalize v1.alloc (.cells #[.pointer a2] 94)=v2 at hk12 hq2 ⊢;have HC2:Hid (Keeps (fun q=>q=K.P∨(Value.slice (some ⟨Q4,0,none⟩) [a].length 1).ownBlock=some q) w6 v2):=zz (HC1.out.trans hk12 (fun q _ e=>e.elim));have HAV2:=zz (HAV1.out.no hk12);have HGV2:=zz (HGV1.out.no hk12);have HKV2:Hid (φ.code=0→Kids v2 B N (some ⟨Q4,0,none⟩) 1 [a] [e]∧ExD v2 (Dc B N (.slice (some ⟨Q4,0,none⟩) [a].length 1)) a2 e2):=zz (fun hc=>⟨(HKV1.out hc).1.no hk12,(HKV1.out hc).2.keep hk12 (fun _ e=>e.elim)⟩);have HQ2:=zz hq2;clear hk12 hq2;refine ⟨.inr ⟨⟨v2,HC2.out⟩,rfl⟩,?_⟩;refine Mix.mix_one 8 3 (by kernel_rfl) rfl rfl ?_;simp only [zp1,zp2,zp3,zp4];go_wp2_with (at_builtin; refine wpList_appP _ rfl (.tmp 48) (.tmp 51) rfl B (.slice (some ⟨Q4,0,none⟩) [a].length 1) [a].length (ptrs [a]) a2 v1.heap.size rfl HGV2.out.own rfl HQ2.out (by simp) (Nat.le_trans HKB.out.2 HAV2.out.k.size) ?_);intro g' cap' v3 ho3 hg3 hgo;have hk23:Keeps (fun q=>(Value.slice (some ⟨Q4,0,none⟩) [a].length 1).ownBlock=some q) v2 v3:=(Keeps.refl _ _).grown hg3 (fun q e=>.inl e);have HC3:Hid (Keeps (fun q=>q=K.P∨(Value.slice (some ⟨Q4,0,none⟩) [a].length 1).ownBlock=some q) w6 v3):=zz (HC2.out.trans hk23 (fun q _ e=>.inr e));have hn3:v3.heap[N]?=some (.cells (exRow 12 Sy.nt Sy.nt Sy.ty0 0 false (.slice (some ⟨Q4,0,none⟩) [a].length 1)) 182 (0,0)):=(hk23.block _ HGV2.out.lt (fun e=>HGV2.out.ne N e rfl)).trans HGV2.out.row;have y7:v3.cell? ⟨N,7,none⟩=some (.slice (some ⟨Q4,0,none⟩) [a].length 1):=by rw [cell_of_row v3 N 7 _ _ _ hn3]; rfl
            have z7:v3.frozen? ⟨N,7,none⟩=false:=frozen_of_row v3 N 7 _ _ hn3;have HGO:Hid (∀ W,W=v3.setCell ⟨N,7,none⟩ (.slice (some ⟨g',0,none⟩) ([a].length+1) cap')→At w W K φ∧Arg W B N (some ⟨g',0,none⟩) cap' ([a]++[a2])∧(φ.code=0→Kids W B N (some ⟨g',0,none⟩) cap' ([a]++[a2]) ([e]++[e2]))∧(∀ q,(Value.slice (some ⟨g',0,none⟩) ([a]++[a2]).length cap').ownBlock=some q→w.heap.size≤q)):=zz (fun W hW=>by
             subst hW;have hks:Keeps (fun q=>q=N) v3 (v3.setCell ⟨N,7,none⟩ (.slice (some ⟨g',0,none⟩) ([a].length+1) cap')):=(Keeps.refl (fun q=>q=N) v3).setCell (.inl rfl) _;refine ⟨⟨(HAV2.out.p.keepR hk23 (fun q e=>Nat.le_trans HKB.out.1 (own_lo HGV2.out.own q e))).keepR hks (fun q e=>by subst e; exact Nat.le_trans HKB.out.1 HGV2.out.hN),(HAV2.out.k.trans hk23 (fun q hq e=>by have:=own_lo HGV2.out.own q e; have:=HKB.out.2; exact absurd hq (by have:=HW0.out q e; omega))).trans hks (fun q hq e=>by subst e; exact absurd hq (by have:=HWN.out; omega))⟩,HGV2.out.push hk23 ho3 hgo,fun hc=>(HKV2.out hc).1.push hk23 hgo (HKV2.out hc).2,fun q hq=>by
              have e1:g'=q:=by injection hq
              rcases hgo with h | h
              · have:=HW0.out g' h; omega
              · have:=HAV2.out.k.size; omega⟩)
            clear ho3 hg3 hgo hk23 hn3;go_wp2_with fail;refine ⟨.inr ⟨⟨v3,HC3.out⟩,rfl⟩,?_⟩;refine Mix.mix_one 9 2 (by kernel_rfl) rfl rfl ?_;simp only [zp1,zp2,zp3,zp4];go_wp2_with fail;refine ⟨.inr ⟨⟨v3,HC3.out⟩,rfl⟩,?_⟩;refine Mix.mix_one 10 1 (by kernel_rfl) rfl rfl ?_;simp only [zp1,zp2,zp3,zp4];go_wp2_with fail;refine ⟨.inr ⟨⟨v3,HC3.out⟩,rfl⟩,?_⟩;refine Mix.mix_one 11 0 (by kernel_rfl) rfl rfl ?_;simp only [zp1,zp2,zp3,zp4];go_wp2_with fail;have hgo:=HGO.out _ rfl;generalize v3.setCell ⟨N,7,none⟩ (.slice (some ⟨g',0,none⟩) ([a].length+1) cap')=w7 at hgo ⊢;have HA7:=zz hgo.1;have HG7:=zz hgo.2.1;have HD7:=zz hgo.2.2.1;have HW7:=zz hgo.2.2.2;clear hgo y7 z7 hne;refine ⟨.inl ⟨rfl,rfl⟩,?_⟩;refine Mix.mix_end (by kernel_rfl) ?_;go_wp2_with fail;go_loopg [55] (rem K φ) (fun m v wr=>∃ (g2:Nat) (sa:Option Addr) (sc:Nat) (av:List (Option Addr)) (es:List Sy.Ex) (χ:Sy.St),m=rem K χ∧Hid (Sy.E K.C g2 (.args (.mk 12 Sy.nt Sy.nt Sy.ty0 0 false es)) χ=Sy.E K.C g (.args (.mk 12 Sy.nt Sy.nt Sy.ty0 0 false [e,e2])) φ∧10 * rem K χ+2≤g2∧g2≤g∧av.length+rem K χ≤2+rem K φ∧rem K χ≤rem K φ)∧Hid (At w wr K χ)∧Hid (Arg wr B N sa sc av)∧Hid (∀ q,(Value.slice sa av.length sc).ownBlock=some q→w.heap.size≤q)∧Hid (χ.code=0→Kids wr B N sa sc av es))
            case atStart=>exact ⟨g,_,_,_,_,φ,rfl,zz ⟨rfl,by have:=HGB.out; omega,Nat.le_refl _,Nat.le_refl _,Nat.le_refl _⟩,HA7,HG7,HW7,HD7⟩
            case round =>
             obtain ⟨g2,sa,sc,av,es,χ,hg3,HE3,HAR,HGR,HWR,HKR⟩:=hrel;obtain ⟨g2,rfl⟩:∃ q,g2=q+1:=⟨g2 - 1,by have:=HE3.out.2.1; omega⟩;have hle:=HAR.out.p.le;obtain ⟨b6,h6⟩:∃ b,Sy.isM K.C χ ⟨#[44]⟩=b:=⟨_,rfl⟩;have HT6:=zz (fun W (hs:PS W K χ)=>take_any K χ ⟨#[44]⟩ b6 h6 W hs);cases b6 with
             | false =>
               have ha:Sy.E K.C g (.args (.mk 12 Sy.nt Sy.nt Sy.ty0 0 false [e,e2])) φ=(.mk 12 Sy.nt Sy.nt Sy.ty0 0 false es,χ):=by
                rw [← HE3.out.1]
                conv=>lhs; unfold Sy.E
                simp only [h6,if_neg (show ¬ (false=true) by decide)]
               obtain ⟨ψ,hψ⟩:∃ ψ,Sy.wantM K.C χ ⟨#[41]⟩=ψ:=⟨_,rfl⟩;have hm4:Sy.Mo K.C χ ψ:=by rw [← hψ]; exact (Sy.Mo.refl hle).want _
               have HW:=zz (fun W (hs:PS W K χ)=>want_any K χ ⟨#[41]⟩ W hs);rw [hψ] at HW;have hr4:=rem_mo hm4;have HE2:Hid (Sy.E K.C g (.post (.mk 12 Sy.nt Sy.nt Sy.ty0 0 false es)) ψ=Sy.E K.C f (.post e0) σ∧10 * rem K ψ+3≤g∧g≤f):=zz ⟨HE1.out es χ ψ ha hψ,by have:=HGB.out; have:=HE3.out.2; omega,HGB.out.2.1⟩;have HCE:Hid (ψ.code=0→χ.code=0):=zz hm4.code;have hms:rem K ψ < rem K τ:=by have:=HGB.out; have:=HE3.out.2; omega
               clear h6 hψ hm4 hr4 hle ha;go_wp2_with fail;refine (HT6.out wr HAR.out.p).mono ?_;rintro e' w8 ⟨rfl,hat⟩;have hat2:At wr w8 K χ:=hat;have HA8:=zz (HAR.out.trans hat2);have HG8:=zz (HGR.out.at_ hat2 HKB.out.1);have HK8:Hid (χ.code=0→Kids w8 B N sa sc av es):=zz (fun hc=>(HKR.out hc).at_ hat2 HKB.out.1);clear hat hat2;go_wp2_with fail;refine (HW.out w8 HA8.out.p).mono ?_;rintro e' w9 ⟨rfl,hat⟩;have HA9:=zz (HA8.out.trans hat);have HX9:Hid (ψ.code=0→ExAt w9 B (some ⟨N,0,none⟩) (.mk 12 Sy.nt Sy.nt Sy.ty0 0 false es)):=zz (fun hc=>(HG8.out.fin (HK8.out (HCE.out hc))).at_ hat HKB.out.1);clear hat;go_wp2_with fail;go_roundg (rem K ψ)
               case rel=>exact ⟨g,_,_,ψ,rfl,rfl,HE2,HA9,HX9⟩
               case measure=>omega
             | true =>
               have hrn:=rem_next (Sy.is_lt h6 (by decide));obtain ⟨ρ,hρ⟩:∃ ρ,Sy.nextM K.C χ=ρ:=⟨_,rfl⟩;have hm5:Sy.Mo K.C χ ρ:=by rw [← hρ]; exact (Sy.Mo.refl hle).next
               rw [hρ] at HT6 hrn;have hb:=HGB.out;have hb3:=HE3.out.2;have HY:=zz (fun W (hs:PS W K ρ)=>(HIH.out g2 (by omega)).expr ρ W hs (by omega));obtain ⟨r4,hr4⟩:∃ r,Sy.E K.C g2 .expr ρ=r:=⟨_,rfl⟩;have hm6:Sy.Mo K.C ρ r4.2:=by rw [← hr4]; exact Sy.E_mo g2 _ ρ hm5.le
               rw [hr4] at HY;obtain ⟨e4,ω⟩:=r4;simp only at hm6;have hr6:=rem_mo hm6;have HE4:Hid (Sy.E K.C g2 (.args (.mk 12 Sy.nt Sy.nt Sy.ty0 0 false (es++[e4]))) ω=Sy.E K.C g (.args (.mk 12 Sy.nt Sy.nt Sy.ty0 0 false [e,e2])) φ∧10 * rem K ω+2≤g2∧g2≤g∧(av.length+1)+rem K ω≤2+rem K φ∧rem K ω≤rem K φ):=zz (by
                refine ⟨?_,by omega,by omega,by omega,by omega⟩;rw [← HE3.out.1]
                conv=>rhs; unfold Sy.E
                simp only [h6,hρ,hr4,if_true,Sy.Ex.subs])
               have HCD2:Hid (ω.code=0→ρ.code=0):=zz hm6.code;have HCU2:Hid (ρ.code=0→χ.code=0):=zz hm5.code;have HLB:Hid (av.length≤6002):=zz (by omega);have hms:rem K ω < rem K χ:=by omega
               clear h6 hρ hm5 hm6 hr4 hr6 hrn hle hb hb3;go_wp2_with fail;refine (HT6.out wr HAR.out.p).mono ?_;rintro e' w8 ⟨rfl,hat⟩;have hat2:At wr w8 K ρ:=hat;have HA8:=zz (HAR.out.trans hat2);have HG8:=zz (HGR.out.at_ hat2 HKB.out.1);have HK8:Hid (ρ.code=0→Kids w8 B N sa sc av es):=zz (fun hc=>(HKR.out (HCU2.out hc)).at_ hat2 HKB.out.1);clear hat hat2;go_upto_region 14 with fail
               have HSS:Hid (∀ q,(q=K.P∨(Value.slice sa av.length sc).ownBlock=some q)→q≠N):=zz (fun q hq e=>by
                rcases hq with hq | hq
                · have:=HS.out.ord; have:=HG8.out.hN; have:=HKB.out.1; omega
                · exact HG8.out.ne q hq e)
               have p7:∀ u:KS (fun q=>q=K.P∨(Value.slice sa av.length sc).ownBlock=some q) w8,u.W.cell? ⟨N,7,none⟩=some (.slice sa av.length sc):=fun u=>u.cell (by rw [cell_of_row w8 N 7 _ _ _ HG8.out.row]; rfl) (fun e=>HSS.out N e rfl)
               have hne:Nonempty (KS (fun q=>q=K.P∨(Value.slice sa av.length sc).ownBlock=some q) w8):=⟨⟨w8,Keeps.refl _ _⟩⟩;refine Mix.wp_region_mix (fun W'=>∃ u:KS (fun q=>q=K.P∨(Value.slice sa av.length sc).ownBlock=some q) w8,W'=u.W) [11] (by kernel_rfl) ?_;have HV0:Hid (Keeps No w8 w8.drew):=zz ((Keeps.refl _ w8).drew);generalize w8.drew=v0 at HV0 ⊢;have HC0:Hid (Keeps (fun q=>q=K.P∨(Value.slice sa av.length sc).ownBlock=some q) w8 v0):=zz (HV0.out.mono (fun _ _ e=>e.elim));have HAV0:=zz (HA8.out.no HV0.out);have HGV0:=zz (HG8.out.no HV0.out);have HKV0:=zz (fun hc=>(HK8.out hc).no HV0.out);refine Mix.mix_seg 0 6 6 (by kernel_rfl) (by kernel_rfl) rfl rfl ⟨⟨v0,HC0.out⟩,rfl⟩ ?_;simp only [zp1,zp2,zp3,zp4]
               repeat (go_big_quiet_step (fail))
               refine wpQuiet_nil ?_;clear p7;refine Mix.mix_one 6 5 (by kernel_rfl) rfl rfl ?_;simp only [zp1,zp2,zp3,zp4];go_wp2_with fail;refine (HY.out v0 HAV0.out.p).mono ?_;rintro e' v1 ⟨a4,rfl,hat,hex⟩;have HC1:Hid (Keeps (fun q=>q=K.P∨(Value.slice sa av.length sc).ownBlock=some q) w8 v1):=zz (HC0.out.trans hat.k (fun q _ e=>.inl e));have HAV1:=zz (HAV0.out.trans hat);have HGV1:=zz (HGV0.out.at_ hat HKB.out.1);have HKV1:Hid (ω.code=0→Kids v1 B N sa sc av es∧ExD v1 (Dc B N (.slice sa av.length sc)) a4 e4):=zz (fun hc=>⟨(HKV0.out (HCD2.out hc)).at_ hat HKB.out.1,ExD.mono (hex hc) (fun q _ hd=>⟨Nat.le_trans HKB.out.2 (Nat.le_trans HAV0.out.k.size hd),fun e=>by have h5:v0.heap.size≤q:=hd; have:=HGV0.out.lt; omega,fun e=>by have h5:v0.heap.size≤q:=hd; have:=own_ltb HGV0.out.own e; omega⟩)⟩);clear hat hex;go_wp2_with fail;refine ⟨.inr ⟨⟨v1,HC1.out⟩,rfl⟩,?_⟩;refine Mix.mix_one 7 4 (by kernel_rfl) rfl rfl ?_;simp only [zp1,zp2,zp3,zp4];go_wp2_with fail;have hk12:Keeps No v1 (v1.alloc (.cells #[.pointer a4] 94)):=(Keeps.refl _ _).alloc _;have hq2:(v1.alloc (.cells #[.pointer a4] 94)).heap[v1.heap.size]?=some (.cells #[.pointer a4] 94 (0,0)):=heap_alloc_new _ _;generalize v1.alloc (.cells #[.pointer a4] 94)=v2 at hk12 hq2 ⊢;have HC2:Hid (Keeps (fun q=>q=K.P∨(Value.slice sa av.length sc).ownBlock=some q) w8 v2):=zz (HC1.out.trans hk12 (fun q _ e=>e.elim));have HAV2:=zz (HAV1.out.no hk12);have HGV2:=zz (HGV1.out.no hk12);have HKV2:Hid (ω.code=0→Kids v2 B N sa sc av es∧ExD v2 (Dc B N (.slice sa av.length sc)) a4 e4):=zz (fun hc=>⟨(HKV1.out hc).1.no hk12,(HKV1.out hc).2.keep hk12 (fun _ e=>e.elim)⟩);have HQ2:=zz hq2;clear hk12 hq2;refine ⟨.inr ⟨⟨v2,HC2.out⟩,rfl⟩,?_⟩;refine Mix.mix_one 8 3 (by kernel_rfl) rfl rfl ?_;simp only [zp1,zp2,zp3,zp4];go_wp2_with (at_builtin; refine wpList_appP _ rfl (.tmp 61) (.tmp 64) rfl B (.slice sa av.length sc) av.length (ptrs av) a4 v1.heap.size rfl HGV2.out.own rfl HQ2.out (by have:=HLB.out; omega) (Nat.le_trans HKB.out.2 HAV2.out.k.size) ?_);intro g' cap' v3 ho3 hg3 hgo;have hk23:Keeps (fun q=>(Value.slice sa av.length sc).ownBlock=some q) v2 v3:=(Keeps.refl _ _).grown hg3 (fun q e=>.inl e);have HC3:Hid (Keeps (fun q=>q=K.P∨(Value.slice sa av.length sc).ownBlock=some q) w8 v3):=zz (HC2.out.trans hk23 (fun q _ e=>.inr e));have hn3:v3.heap[N]?=some (.cells (exRow 12 Sy.nt Sy.nt Sy.ty0 0 false (.slice sa av.length sc)) 182 (0,0)):=(hk23.block _ HGV2.out.lt (fun e=>HGV2.out.ne N e rfl)).trans HGV2.out.row;have y7:v3.cell? ⟨N,7,none⟩=some (.slice sa av.length sc):=by rw [cell_of_row v3 N 7 _ _ _ hn3]; rfl
               have z7:v3.frozen? ⟨N,7,none⟩=false:=frozen_of_row v3 N 7 _ _ hn3;have HGO:Hid (∀ W,W=v3.setCell ⟨N,7,none⟩ (.slice (some ⟨g',0,none⟩) (av.length+1) cap')→At w W K ω∧Arg W B N (some ⟨g',0,none⟩) cap' (av++[a4])∧(ω.code=0→Kids W B N (some ⟨g',0,none⟩) cap' (av++[a4]) (es++[e4]))∧(∀ q,(Value.slice (some ⟨g',0,none⟩) (av++[a4]).length cap').ownBlock=some q→w.heap.size≤q)):=zz (fun W hW=>by
                subst hW;have hks:Keeps (fun q=>q=N) v3 (v3.setCell ⟨N,7,none⟩ (.slice (some ⟨g',0,none⟩) (av.length+1) cap')):=(Keeps.refl (fun q=>q=N) v3).setCell (.inl rfl) _;refine ⟨⟨(HAV2.out.p.keepR hk23 (fun q e=>Nat.le_trans HKB.out.1 (own_lo HGV2.out.own q e))).keepR hks (fun q e=>by subst e; exact Nat.le_trans HKB.out.1 HGV2.out.hN),(HAV2.out.k.trans hk23 (fun q hq e=>by have:=own_lo HGV2.out.own q e; have:=HKB.out.2; exact absurd hq (by have:=HWR.out q e; omega))).trans hks (fun q hq e=>by subst e; exact absurd hq (by have:=HWN.out; omega))⟩,HGV2.out.push hk23 ho3 hgo,fun hc=>(HKV2.out hc).1.push hk23 hgo (HKV2.out hc).2,fun q hq=>by
                 have e1:g'=q:=by injection hq
                 rcases hgo with h | h
                 · have:=HWR.out g' h; omega
                 · have:=HAV2.out.k.size; omega⟩)
               clear ho3 hg3 hgo hk23 hn3;go_wp2_with fail;refine ⟨.inr ⟨⟨v3,HC3.out⟩,rfl⟩,?_⟩;refine Mix.mix_one 9 2 (by kernel_rfl) rfl rfl ?_;simp only [zp1,zp2,zp3,zp4];go_wp2_with fail;refine ⟨.inr ⟨⟨v3,HC3.out⟩,rfl⟩,?_⟩;refine Mix.mix_one 10 1 (by kernel_rfl) rfl rfl ?_;simp only [zp1,zp2,zp3,zp4];go_wp2_with fail;refine ⟨.inr ⟨⟨v3,HC3.out⟩,rfl⟩,?_⟩;refine Mix.mix_one 11 0 (by kernel_rfl) rfl rfl ?_;simp only [zp1,zp2,zp3,zp4];go_wp2_with fail;have hgo:=HGO.out _ rfl;generalize v3.setCell ⟨N,7,none⟩ (.slice (some ⟨g',0,none⟩) (av.length+1) cap')=w9 at hgo ⊢;have HA9:=zz hgo.1;have HG9:=zz hgo.2.1;have HK9:=zz hgo.2.2.1;have HW9:=zz hgo.2.2.2;clear hgo y7 z7 hne;refine ⟨.inl ⟨rfl,rfl⟩,?_⟩;refine Mix.mix_end (by kernel_rfl) ?_;go_wp2_with fail;go_roundg (rem K ω)
               case rel=>exact ⟨g2,_,_,_,_,ω,rfl,zz ⟨HE4.out.1,HE4.out.2.1,HE4.out.2.2.1,by rw [List.length_append]; exact HE4.out.2.2.2.1,HE4.out.2.2.2.2⟩,HA9,HG9,HW9,HK9⟩
               case measure=>omega
theorem all_upto (K:Pk):∀ f g,g≤f→AllC K g
 | 0,g,hg=>by
   have h:∀ q,q < g→AllC K q:=fun q hq=>absurd hq (by omega)
   exact ⟨expr_step K g h,cond_step K g h,bin_step K g h,unary_step K g h,post_step K g h⟩
 | f+1,g,hg=>by
   have h:∀ q,q < g→AllC K q:=fun q hq=>all_upto K f q (by omega)
   exact ⟨expr_step K g h,cond_step K g h,bin_step K g h,unary_step K g h,post_step K g h⟩
theorem all_any (K:Pk) (f:Nat):AllC K f:=all_upto K f f (Nat.le_refl _)
theorem exprM_any (K:Pk) (σ:Sy.St) (w:World) (h:PS w K σ):Calls Tryz.prog 111 #[.pointer (some ⟨K.P,0,none⟩)] w (ExPost w K (Sy.exprM K.C σ)) :=
 (all_any K _).expr σ w h (by show 10 * (K.C.T.length - σ.at_)+7≤10 * (K.C.T.length - σ.at_)+8; omega)
theorem condM_any (K:Pk) (σ:Sy.St) (w:World) (h:PS w K σ):Calls Tryz.prog 96 #[.pointer (some ⟨K.P,0,none⟩)] w (ExPost w K (Sy.condM K.C σ)) :=
 (all_any K _).cond σ w h (by show 10 * (K.C.T.length - σ.at_)+6≤10 * (K.C.T.length - σ.at_)+8; omega)
def smRow (kind:Int) (v:Sy.Vr) (name:ByteArray) (minus:Bool) (num:Int) (p0 p1 p2:Option Addr) (body:Value):Array Value :=
 #[.int .i64 kind,.string v.name,.string v.ty.base,.int .i64 v.ty.stars,.bool v.arr,.int .u64 v.num,.string name,.bool minus,.int .u64 num,.pointer p0,.pointer p1,.pointer p2,body]
inductive OpD (w:World) (D:Nat→Prop):Option Addr→Option Sy.Ex→Prop
 | none:OpD w D none none
 | some {a:Option Addr} {e:Sy.Ex} (h:ExD w D a e):OpD w D a (some e)
theorem OpD.keep {S D:Nat→Prop} {w w':World} {a:Option Addr} {e:Option Sy.Ex} (h:OpD w D a e) (hk:Keeps S w w') (hS:∀ q,S q→¬ D q∨w.heap.size≤q):OpD w' D a e:=by
 cases h with
 | none=>exact .none
 | some h=>exact .some (h.keep hk hS)
theorem OpD.mono {D D':Nat→Prop} {w:World} {a:Option Addr} {e:Option Sy.Ex} (h:OpD w D a e) (hD:∀ q,q < w.heap.size→D q→D' q):OpD w D' a e:=by
 cases h with
 | none=>exact .none
 | some h=>exact .some (h.mono hD)
inductive SmD (w:World) (D:Nat→Prop):Option Addr→Sy.Sm→Prop
 | mk (g:Nat) (sa:Option Addr) (sc:Nat) (av:List (Option Addr)) (kind:Int) (v:Sy.Vr) (name:ByteArray) (minus:Bool) (num:Int) (p0 p1 p2:Option Addr) (e0 e1 e2:Option Sy.Ex) (body:List Sy.Sm)
   (hD:D g) (hrow:w.heap[g]?=some (.cells (smRow kind v name minus num p0 p1 p2 (.slice sa av.length sc)) 171 (0,0)))
   (h0:OpD w D p0 e0) (h1:OpD w D p1 e1) (h2:OpD w D p2 e2)
   (hs:w.ownsRow 0 93 1 (.slice sa av.length sc) av.length (ptrs av)) (hsd:∀ q,(Value.slice sa av.length sc).ownBlock=some q→D q) (hl:av.length=body.length)
   (hsub:∀ (i:Nat) (a:Option Addr) (s:Sy.Sm),av[i]?=some a→body[i]?=some s→SmD w D a s):SmD w D (some ⟨g,0,none⟩) (.mk kind v name minus num e0 e1 e2 body)
theorem SmD.keep {S D:Nat→Prop} {w w':World} {a:Option Addr} {s:Sy.Sm} (h:SmD w D a s) (hk:Keeps S w w') (hS:∀ q,S q→¬ D q∨w.heap.size≤q):SmD w' D a s:=by
 induction h with
 | mk g sa sc av kind v name minus num p0 p1 p2 e0 e1 e2 body hD hrow h0 h1 h2 hs hsd hl hsub ih =>
   have hg:=(Array.getElem?_eq_some_iff.1 hrow).1;refine .mk g sa sc av kind v name minus num p0 p1 p2 e0 e1 e2 body hD ((hk.block g hg (fun e=>by rcases hS g e with h | h; exact h hD; omega)).trans hrow) (h0.keep hk hS) (h1.keep hk hS) (h2.keep hk hS) (own_kept hs (fun q hq=>hk.block q (own_ltb hs hq) (fun e=>by
    have h2:=own_ltb hs hq;rcases hS q e with h | h; exact h (hsd q hq); omega))) hsd hl ih
theorem SmD.mono {D D':Nat→Prop} {w:World} {a:Option Addr} {s:Sy.Sm} (h:SmD w D a s) (hD:∀ q,q < w.heap.size→D q→D' q):SmD w D' a s:=by
 induction h with
 | mk g sa sc av kind v name minus num p0 p1 p2 e0 e1 e2 body h1 hrow k0 k1 k2 hs hsd hl hsub ih=>exact .mk g sa sc av kind v name minus num p0 p1 p2 e0 e1 e2 body (hD _ (Array.getElem?_eq_some_iff.1 hrow).1 h1) hrow (k0.mono hD) (k1.mono hD) (k2.mono hD) hs (fun q hq=>hD q (own_ltb hs hq) (hsd q hq)) hl ih
def SmAt (w:World) (B:Nat) (a:Option Addr) (s:Sy.Sm):Prop:=SmD w (fun q=>B≤q) a s
theorem SmAt.keep {S:Nat→Prop} {w w':World} {B:Nat} {a:Option Addr} {s:Sy.Sm} (h:SmAt w B a s) (hk:Keeps S w w') (hS:∀ q,S q→q < B∨w.heap.size≤q):SmAt w' B a s :=
 SmD.keep h hk (fun q e=>by rcases hS q e with h | h; exact .inl (fun h2=>by have h3:B≤q:=h2; omega); exact .inr h)
theorem SmAt.no {w w':World} {B:Nat} {a:Option Addr} {s:Sy.Sm} (h:SmAt w B a s) (hk:Keeps No w w'):SmAt w' B a s:=h.keep hk (fun _ e=>e.elim)
theorem SmAt.at_ {w w':World} {K:Pk} {τ:Sy.St} {B:Nat} {a:Option Addr} {s:Sy.Sm} (h:SmAt w B a s) (hk:At w w' K τ) (hB:K.B≤B):SmAt w' B a s:=h.keep hk.k (fun q e=>.inl (by
 have h2:q=K.P:=e;have:=hk.p.ord; omega))
theorem SmAt.mono {w:World} {B B':Nat} {a:Option Addr} {s:Sy.Sm} (h:SmAt w B a s) (hB:B'≤B):SmAt w B' a s:=SmD.mono h (fun q _ h2=>Nat.le_trans hB h2)
def SmPost (w:World) (K:Pk) (r:Sy.Sm × Sy.St) (e:Ending) (w':World):Prop:=∃ a,e=.returned (.pointer a)∧At w w' K r.2∧(r.2.code=0→SmAt w' w.heap.size a r.1)
structure Nod (w:World) (B N:Nat) (kind:Int) (v:Sy.Vr) (name:ByteArray) (minus:Bool) (num:Int) (p0 p1 p2:Option Addr) (sa:Option Addr) (sc:Nat) (av:List (Option Addr)):Prop where
 row:w.heap[N]?=some (.cells (smRow kind v name minus num p0 p1 p2 (.slice sa av.length sc)) 171 (0,0))
 own:w.ownsRow B 93 1 (.slice sa av.length sc) av.length (ptrs av)
 ne:∀ q,(Value.slice sa av.length sc).ownBlock=some q→q≠N
 hN:B≤N
structure Hung (w:World) (B N:Nat) (p0 p1 p2:Option Addr) (e0 e1 e2:Option Sy.Ex) (sa:Option Addr) (sc:Nat) (av:List (Option Addr)) (ss:List Sy.Sm):Prop where
 o0:OpD w (Dc B N (.slice sa av.length sc)) p0 e0
 o1:OpD w (Dc B N (.slice sa av.length sc)) p1 e1
 o2:OpD w (Dc B N (.slice sa av.length sc)) p2 e2
 len:av.length=ss.length
 sub:∀ (i:Nat) (a:Option Addr) (s:Sy.Sm),av[i]?=some a→ss[i]?=some s→SmD w (Dc B N (.slice sa av.length sc)) a s
section
variable {w w':World} {K:Pk} {τ:Sy.St} {B N:Nat} {kind:Int} {v:Sy.Vr} {name:ByteArray} {minus:Bool} {num:Int} {p0 p1 p2:Option Addr} {e0 e1 e2:Option Sy.Ex} {sa:Option Addr} {sc:Nat} {av:List (Option Addr)} {ss:List Sy.Sm}
theorem Nod.lt (h:Nod w B N kind v name minus num p0 p1 p2 sa sc av):N < w.heap.size:=(Array.getElem?_eq_some_iff.1 h.row).1
theorem Nod.at_ (h:Nod w B N kind v name minus num p0 p1 p2 sa sc av) (hk:At w w' K τ) (hB:K.B≤B):Nod w' B N kind v name minus num p0 p1 p2 sa sc av :=
 ⟨(hk.k.block _ h.lt (fun e=>by have e2:N=K.P:=e; have:=hk.p.ord; have:=h.hN; omega)).trans h.row,own_kept h.own (fun q hq=>hk.k.block q (own_ltb h.own hq) (fun e=>by have e2:q=K.P:=e; have:=hk.p.ord; have:=own_lo h.own q hq; omega)),h.ne,h.hN⟩
theorem Nod.no (h:Nod w B N kind v name minus num p0 p1 p2 sa sc av) (hk:Keeps No w w'):Nod w' B N kind v name minus num p0 p1 p2 sa sc av :=
 ⟨(hk.block _ h.lt (fun e=>e)).trans h.row,own_kept h.own (fun q hq=>hk.block q (own_ltb h.own hq) (fun e=>e)),h.ne,h.hN⟩
theorem Hung.keep {S:Nat→Prop} (h:Hung w B N p0 p1 p2 e0 e1 e2 sa sc av ss) (hk:Keeps S w w') (hS:∀ q,S q→¬ Dc B N (.slice sa av.length sc) q∨w.heap.size≤q):Hung w' B N p0 p1 p2 e0 e1 e2 sa sc av ss :=
 ⟨h.o0.keep hk hS,h.o1.keep hk hS,h.o2.keep hk hS,h.len,fun i a s ha hs=>(h.sub i a s ha hs).keep hk hS⟩
theorem Hung.at_ (h:Hung w B N p0 p1 p2 e0 e1 e2 sa sc av ss) (hk:At w w' K τ) (hB:K.B≤B):Hung w' B N p0 p1 p2 e0 e1 e2 sa sc av ss :=
 h.keep hk.k (fun q e2=>.inl (fun h2=>by have e3:q=K.P:=e2; have:=hk.p.ord; have:=h2.1; omega))
theorem Hung.no (h:Hung w B N p0 p1 p2 e0 e1 e2 sa sc av ss) (hk:Keeps No w w'):Hung w' B N p0 p1 p2 e0 e1 e2 sa sc av ss:=h.keep hk (fun q e=>e.elim)
theorem Hung.own (h:Hung w B N p0 p1 p2 e0 e1 e2 sa sc av ss) (hk:Keeps (fun q=>q=N) w w'):Hung w' B N p0 p1 p2 e0 e1 e2 sa sc av ss :=
 h.keep hk (fun q e=>.inl (fun h2=>h2.2.1 e))
theorem Nod.fin (h:Nod w B N kind v name minus num p0 p1 p2 sa sc av) (hh:Hung w B N p0 p1 p2 e0 e1 e2 sa sc av ss):SmAt w B (some ⟨N,0,none⟩) (.mk kind v name minus num e0 e1 e2 ss) :=
 .mk N sa sc av kind v name minus num p0 p1 p2 e0 e1 e2 ss h.hN h.row (hh.o0.mono (fun q _ hd=>hd.1)) (hh.o1.mono (fun q _ hd=>hd.1)) (hh.o2.mono (fun q _ hd=>hd.1)) (own_mono h.own (Nat.zero_le _)) (fun q hq=>own_lo h.own q hq) hh.len (fun i a s ha hs=>(hh.sub i a s ha hs).mono (fun q _ hd=>hd.1))
end
theorem Nod.bare {w:World} {B N:Nat} {kind:Int} {v:Sy.Vr} {name:ByteArray} {minus:Bool} {num:Int} (hB:B≤N) (h:w.heap[N]?=some (.cells (smRow kind v name minus num none none none (.slice none 0 0)) 171 (0,0))) :
    Nod w B N kind v name minus num none none none none 0 []∧Hung w B N none none none none none none none 0 [] [] :=
 ⟨⟨h,World.ownsRow_nil _ _ _ _,fun q hq=>(nomatch hq),hB⟩,⟨.none,.none,.none,rfl,fun i a s ha=>by cases ha⟩⟩
theorem asked_any (K:Pk) (σ:Sy.St) (w:World) (h:PS w K σ):Calls Tryz.prog 124 #[.pointer (some ⟨K.P,0,none⟩)] w (ExPost w K (Sy.askedM K.C σ)):=by
 have hle:=h.le;have HS:=zz h;have HBB:=zz h.ord.2.2.2;obtain ⟨τ,hτ⟩:∃ τ,Sy.wantM K.C σ ⟨#[40]⟩=τ:=⟨_,rfl⟩;have hm1:Sy.Mo K.C σ τ:=by rw [← hτ]; exact (Sy.Mo.refl hle).want _
 have HW1:=zz (want_any K σ ⟨#[40]⟩ w h);rw [hτ] at HW1;have HX:=zz (fun W (hs:PS W K τ)=>exprM_any K τ W hs);obtain ⟨r,hr⟩:∃ r,Sy.exprM K.C τ=r:=⟨_,rfl⟩;have hm2:Sy.Mo K.C τ r.2:=by rw [← hr]; exact Sy.E_mo _ _ τ hm1.le
 rw [hr] at HX;obtain ⟨e1,υ⟩:=r;simp only at hm2;obtain ⟨φ,hφ⟩:∃ φ,Sy.wantM K.C υ ⟨#[41]⟩=φ:=⟨_,rfl⟩;have hm3:Sy.Mo K.C υ φ:=by rw [← hφ]; exact (Sy.Mo.refl hm2.le).want _
 have HW2:=zz (fun W (hs:PS W K υ)=>want_any K υ ⟨#[41]⟩ W hs);rw [hφ] at HW2;have HM:Hid (Sy.askedM K.C σ=(e1,φ)):=zz (by unfold Sy.askedM; simp only [hτ,hr,hφ]);have HCD:Hid (φ.code=0→υ.code=0):=zz hm3.code;clear h hle hτ hm1 hr hm2 hφ hm3;go_enter Tryz.func124,Tryz.ntmps124;go_wp2_with fail;refine HW1.out.mono ?_;rintro e w1 ⟨rfl,hat⟩;have HA1:=zz hat;clear hat;go_wp2_with fail;refine (HX.out w1 HA1.out.p).mono ?_;rintro e w2 ⟨a1,rfl,hat,hex⟩;have HA2:=zz (HA1.out.trans hat);have HX2:Hid (υ.code=0→ExAt w2 w.heap.size a1 e1):=zz (fun hc=>(hex hc).mono HA1.out.k.size);clear hat hex;go_wp2_with fail;refine (HW2.out w2 HA2.out.p).mono ?_;rintro e w3 ⟨rfl,hat⟩;have HA3:=zz (HA2.out.trans hat);have HX3:Hid (φ.code=0→ExAt w3 w.heap.size a1 e1):=zz (fun hc=>(HX2.out (HCD.out hc)).at_ hat HBB.out);clear hat;go_wp2_with fail;go_returns;exact ⟨_,rfl,by rw [HM.out]; exact HA3.out,by rw [HM.out]; exact HX3.out⟩
section
variable {w w':World} {K:Pk} {τ:Sy.St} {B N:Nat} {kind kind':Int} {v v':Sy.Vr} {name name':ByteArray} {minus minus':Bool} {num num':Int} {p0 p1 p2 q0 q1 q2:Option Addr} {e0 e1 e2:Option Sy.Ex} {sa:Option Addr} {sc:Nat} {av:List (Option Addr)} {ss:List Sy.Sm}
theorem Nod.setc (h:Nod w B N kind v name minus num p0 p1 p2 sa sc av) (j:Nat) (x:Value)
    (hr:(smRow kind v name minus num p0 p1 p2 (.slice sa av.length sc)).setIfInBounds j x=smRow kind' v' name' minus' num' q0 q1 q2 (.slice sa av.length sc)) :
    Nod (w.setCell ⟨N,j,none⟩ x) B N kind' v' name' minus' num' q0 q1 q2 sa sc av :=
 ⟨by rw [heap_setCell_same w N j _ _ _ h.row,hr],own_kept h.own (fun q hq=>Below.heap_setCell _ _ _ _ (fun e=>h.ne q hq (by simpa using e))),h.ne,h.hN⟩
theorem Nod.set_kind (h:Nod w B N kind v name minus num p0 p1 p2 sa sc av) (k:Int):Nod (w.setCell ⟨N,0,none⟩ (.int .i64 k)) B N k v name minus num p0 p1 p2 sa sc av:=h.setc 0 _ rfl
theorem Nod.set_name (h:Nod w B N kind v name minus num p0 p1 p2 sa sc av) (x:ByteArray):Nod (w.setCell ⟨N,6,none⟩ (.string x)) B N kind v x minus num p0 p1 p2 sa sc av:=h.setc 6 _ rfl
theorem Nod.set_num (h:Nod w B N kind v name minus num p0 p1 p2 sa sc av) (x:Int):Nod (w.setCell ⟨N,8,none⟩ (.int .u64 x)) B N kind v name minus x p0 p1 p2 sa sc av:=h.setc 8 _ rfl
theorem Nod.set_p0 (h:Nod w B N kind v name minus num p0 p1 p2 sa sc av) (a:Option Addr):Nod (w.setCell ⟨N,9,none⟩ (.pointer a)) B N kind v name minus num a p1 p2 sa sc av:=h.setc 9 _ rfl
theorem Nod.set_p1 (h:Nod w B N kind v name minus num p0 p1 p2 sa sc av) (a:Option Addr):Nod (w.setCell ⟨N,10,none⟩ (.pointer a)) B N kind v name minus num p0 a p2 sa sc av:=h.setc 10 _ rfl
theorem Nod.set_p2 (h:Nod w B N kind v name minus num p0 p1 p2 sa sc av) (a:Option Addr):Nod (w.setCell ⟨N,11,none⟩ (.pointer a)) B N kind v name minus num p0 p1 a sa sc av:=h.setc 11 _ rfl
theorem Hung.setc (h:Hung w B N p0 p1 p2 e0 e1 e2 sa sc av ss) (j:Nat) (x:Value):Hung (w.setCell ⟨N,j,none⟩ x) B N p0 p1 p2 e0 e1 e2 sa sc av ss:=h.own ((Keeps.refl (fun q=>q=N) w).setCell (.inl rfl) _)
theorem Nod.c (h:Nod w B N kind v name minus num p0 p1 p2 sa sc av) {j:Nat} {x:Value} (hj:(smRow kind v name minus num p0 p1 p2 (.slice sa av.length sc))[j]?=some x):w.cell? ⟨N,j,none⟩=some x:=by rw [cell_of_row w N j _ _ _ h.row]; exact hj
theorem Nod.f (h:Nod w B N kind v name minus num p0 p1 p2 sa sc av) (j:Nat):w.frozen? ⟨N,j,none⟩=false:=frozen_of_row w N j _ _ h.row
end
theorem AtV.at_ {a b c:World} {K:Pk} {σ τ:Sy.St} {V:Nat} (h:AtV a b K σ V) (g:At b c K τ):AtV a c K τ V:=⟨g.p,h.k.trans g.k (fun q _ e=>.inl e)⟩
theorem AtV.own {a b c:World} {K:Pk} {σ:Sy.St} {V:Nat} (h:AtV a b K σ V) (hk:Keeps (fun q=>q=V) b c) (hB:K.B≤V):AtV a c K σ V:=⟨h.p.keepR hk (fun q e=>by subst e; exact hB),h.k.trans hk (fun q _ e=>.inr e)⟩
theorem AtV.no {a b c:World} {K:Pk} {σ:Sy.St} {V:Nat} (h:AtV a b K σ V) (hk:Keeps No b c):AtV a c K σ V:=⟨h.p.no hk,h.k.trans hk (fun q _ e=>e.elim)⟩
def InPost (w:World) (K:Pk) (N:Nat) (r:Sy.Sm × Sy.St) (e:Ending) (w':World):Prop:=e=.returned (.tuple #[])∧AtV w w' K r.2 N∧(r.2.code=0→SmAt w' N (some ⟨N,0,none⟩) r.1)
theorem plain_any (K:Pk) (σ:Sy.St) (N:Nat) (k:Int) (w:World) (h:PS w K σ) (hB:K.B≤N) (hn:Nod w N N 0 Sy.vr0 Sy.nt false 0 none none none none 0 []∧Hung w N N none none none none none none none 0 [] []) :
    Calls Tryz.prog 127 #[.pointer (some ⟨K.P,0,none⟩),.pointer (some ⟨N,0,none⟩),.int .i64 k] w (InPost w K N (.mk k Sy.vr0 Sy.nt false 0 none none none [],Sy.wantM K.C (Sy.nextM K.C σ) ⟨#[59]⟩)):=by
 have HBB:=zz hB;have HNX:=zz (next_any K σ w h);obtain ⟨τ,hτ⟩:∃ τ,Sy.nextM K.C σ=τ:=⟨_,rfl⟩;rw [hτ] at HNX ⊢;have HW:=zz (fun W (hs:PS W K τ)=>want_any K τ ⟨#[59]⟩ W hs);have HN:=zz hn;clear h hτ hB hn;go_enter Tryz.func127,Tryz.ntmps127;go_wp2_with fail;refine HNX.out.mono ?_;rintro e w1 ⟨rfl,hat⟩;have HA1:=zz hat;have HN1:=zz (HN.out.1.at_ hat HBB.out);have HH1:=zz (HN.out.2.at_ hat HBB.out);clear hat;have y0:w1.cell? ⟨N,0,none⟩=some (.int .i64 0):=HN1.out.c (j:=0) rfl;have z0:w1.frozen? ⟨N,0,none⟩=false:=HN1.out.f 0;go_wp2_with fail;have HA2:=zz ((HA1.out.toV N).own ((Keeps.refl (fun q=>q=N) w1).setCell (p:=⟨N,0,none⟩) (.inl rfl) (.int .i64 k)) HBB.out);have HN2:=zz (HN1.out.set_kind k);have HH2:=zz (HH1.out.setc 0 (.int .i64 k));generalize w1.setCell ⟨N,0,none⟩ (.int .i64 k)=w2 at HA2 HN2 HH2 ⊢;clear y0 z0;refine (HW.out w2 HA2.out.p).mono ?_;rintro e w3 ⟨rfl,hat⟩;have HA3:=zz (HA2.out.at_ hat);have HX3:=zz ((HN2.out.at_ hat HBB.out).fin (HH2.out.at_ hat HBB.out));clear hat;go_wp2_with fail;go_returns;exact ⟨rfl,HA3.out,fun _=>HX3.out⟩
theorem labelled_any (K:Pk) (σ:Sy.St) (w:World) (h:PS w K σ):Calls Tryz.prog 136 #[.pointer (some ⟨K.P,0,none⟩)] w (SmPost w K (Sy.labelledM K.C σ)):=by
 have HS:=zz h;have HNX:=zz (next_any K σ w h);obtain ⟨σ1,h1⟩:∃ x,Sy.nextM K.C σ=x:=⟨_,rfl⟩;rw [h1] at HNX;obtain ⟨b,hb⟩:∃ b,Sy.isM K.C σ1 ⟨#[45]⟩=b:=⟨_,rfl⟩;have HTK:=zz (fun W (hs:PS W K σ1)=>take_any K σ1 ⟨#[45]⟩ b hb W hs);obtain ⟨σ2,h2⟩:∃ x,(if b=true then Sy.nextM K.C σ1 else σ1)=x:=⟨_,rfl⟩;rw [h2] at HTK;obtain ⟨t,ht⟩:∃ t,Sy.peekM K.C σ2 0=t:=⟨_,rfl⟩;have HPK:=zz (fun W (hs:PS W K σ2)=>peek_as K σ2 0 (by omega) t ht 0 rfl W hs);obtain ⟨σ3,h3⟩:∃ x,(if t.kind=3 then (Sy.numberTypeM K.C σ2 t).2 else if t.kind=4 then σ2 else Sy.lostM K.C σ2)=x:=⟨_,rfl⟩;have HNX3:=zz (fun W (hs:PS W K σ3)=>next_any K σ3 W hs);obtain ⟨σ4,h4⟩:∃ x,Sy.nextM K.C σ3=x:=⟨_,rfl⟩;rw [h4] at HNX3;have HWA:=zz (fun W (hs:PS W K σ4)=>want_any K σ4 ⟨#[58]⟩ W hs);have HM:Hid (Sy.labelledM K.C σ=(.mk 9 Sy.vr0 Sy.nt b t.num none none none [],Sy.wantM K.C σ4 ⟨#[58]⟩)):=zz (by
  unfold Sy.labelledM Sy.goM;simp only [h1,hb,h2,ht,h3,h4])
 have H3:=zz h3;clear h h1 hb h2 ht h3 h4;go_enter Tryz.func136,Tryz.ntmps136;go_wp2_with fail;refine HNX.out.mono ?_;rintro e w1 ⟨rfl,hat⟩;have HA1:=zz hat;clear hat;go_wp2_with fail;refine (HTK.out w1 HA1.out.p).mono ?_;rintro e w2 ⟨rfl,hat⟩;have hat2:At w1 w2 K σ2:=hat;have HA2:=zz (HA1.out.trans hat2);clear hat hat2;go_upto_region 3 with fail
 have hnw:(w2.alloc (.cells #[.int .i64 9,.string ⟨#[]⟩,.string ⟨#[]⟩,.int .i64 0,.bool false,.int .u64 0,.string ⟨#[]⟩,.bool b,.int .u64 0,.pointer none,.pointer none,.pointer none,.slice none 0 0] 171)).heap[w2.heap.size]?=some (.cells (smRow 9 Sy.vr0 Sy.nt b 0 none none none (.slice none 0 0)) 171 (0,0)):=heap_alloc_new _ _;have HA3:=zz (HA2.out.no ((Keeps.refl _ w2).alloc (.cells #[.int .i64 9,.string ⟨#[]⟩,.string ⟨#[]⟩,.int .i64 0,.bool false,.int .u64 0,.string ⟨#[]⟩,.bool b,.int .u64 0,.pointer none,.pointer none,.pointer none,.slice none 0 0] 171)));generalize w2.alloc (.cells #[.int .i64 9,.string ⟨#[]⟩,.string ⟨#[]⟩,.int .i64 0,.bool false,.int .u64 0,.string ⟨#[]⟩,.bool b,.int .u64 0,.pointer none,.pointer none,.pointer none,.slice none 0 0] 171)=w3 at hnw HA3 ⊢;obtain ⟨N,hN⟩:∃ n,w2.heap.size=n:=⟨_,rfl⟩;have HWN:Hid (w.heap.size≤N∧K.B≤w.heap.size):=zz ⟨by have:=HA2.out.k.size; omega,HS.out.ord.2.2.2⟩;rw [hN] at hnw ⊢;have HN3:=zz (Nod.bare HWN.out.1 hnw);clear hnw hN;go_wp2_with fail;refine (HPK.out w3 HA3.out.p).mono ?_;rintro e w4 ⟨rfl,hk⟩;have HA4:=zz (HA3.out.no hk);have HN4:=zz (And.intro (HN3.out.1.no hk) (HN3.out.2.no hk));clear hk;go_upto_region 4 with fail
 have hq4:(w4.alloc (.cells #[.int .i64 t.kind,.int .i64 (t.at_:Int),.string t.text,.string t.suf,.int .u64 t.num,.bool t.hex] 83)).heap[w4.heap.size]?=some (.cells #[.int .i64 t.kind,.int .i64 (t.at_:Int),.string t.text,.string t.suf,.int .u64 t.num,.bool t.hex] 83 (0,0)):=heap_alloc_new _ _;have HA5:=zz (HA4.out.no ((Keeps.refl _ w4).alloc (.cells #[.int .i64 t.kind,.int .i64 (t.at_:Int),.string t.text,.string t.suf,.int .u64 t.num,.bool t.hex] 83)));have HN5:=zz (And.intro (HN4.out.1.no ((Keeps.refl _ w4).alloc (.cells #[.int .i64 t.kind,.int .i64 (t.at_:Int),.string t.text,.string t.suf,.int .u64 t.num,.bool t.hex] 83))) (HN4.out.2.no ((Keeps.refl _ w4).alloc (.cells #[.int .i64 t.kind,.int .i64 (t.at_:Int),.string t.text,.string t.suf,.int .u64 t.num,.bool t.hex] 83))));generalize w4.alloc (.cells #[.int .i64 t.kind,.int .i64 (t.at_:Int),.string t.text,.string t.suf,.int .u64 t.num,.bool t.hex] 83)=w5 at hq4 HA5 HN5 ⊢;obtain ⟨Q,hQ⟩:∃ n,w4.heap.size=n:=⟨_,rfl⟩;have HWQ:Hid (w.heap.size≤Q∧Q≠N):=zz ⟨by have:=HA4.out.k.size; omega,by have:=HN4.out.1.lt; omega⟩;rw [hQ] at hq4 ⊢;clear hQ;have HQ5:=zz hq4;obtain ⟨x0,x1,x2,x3,x4,x5⟩:=tk_box hq4;clear hq4;have hsp:t.kind=3∨(t.kind≠3∧t.kind=4)∨(t.kind≠3∧t.kind≠4):=by omega
 rcases hsp with hk | ⟨hk3,hk⟩ | ⟨hk3,hk⟩
 · have ek:(t.kind==3)=true:=beq_iff_eq.2 hk;have H3:=zz (by have:=H3.out; rw [if_pos hk] at this; exact this);have HNT:=zz (fun W (hs:PS W K σ2)=>numberType_any K σ2 t W hs);clear hk;go_wp2_with fail;refine (HNT.out w5 HA5.out.p).mono ?_;rintro e w6 ⟨rfl,hat⟩;have HX6:Hid (w6.cell? ⟨Q,4,none⟩=some (.int .u64 t.num)):=zz (hat.k.cell x4 (fun e=>by have e2:Q=K.P:=e; have:=HS.out.lt; have:=HWQ.out.1; omega));have HA6:=zz (HA5.out.trans hat);have HN6:=zz (And.intro (HN5.out.1.at_ hat HWN.out.2) (HN5.out.2.at_ hat HWN.out.2));clear hat x0 x1 x2 x3 x4 x5;go_wp2_with fail;have HA7:Hid (At w w6 K σ3):=zz (by rw [← H3.out]; exact HA6.out);refine (HNX3.out w6 HA7.out.p).mono ?_;rintro e w7 ⟨rfl,hat⟩;have HA8:=zz (HA7.out.trans hat);have HN7:=zz (And.intro (HN6.out.1.at_ hat HWN.out.2) (HN6.out.2.at_ hat HWN.out.2));have y4:w7.cell? ⟨Q,4,none⟩=some (.int .u64 t.num):=hat.k.cell HX6.out (fun e=>by have e2:Q=K.P:=e; have:=HS.out.lt; have:=HWQ.out.1; omega);clear hat;have y8:w7.cell? ⟨N,8,none⟩=some (.int .u64 0):=HN7.out.1.c (j:=8) rfl;have z8:w7.frozen? ⟨N,8,none⟩=false:=HN7.out.1.f 8;go_wp2_with fail;have HA9:=zz (HA8.out.newR HS.out ((Keeps.refl (fun q=>q=N) w7).setCell (p:=⟨N,8,none⟩) (.inl rfl) (.int .u64 t.num)) HWN.out.1);have HN8:=zz (And.intro (HN7.out.1.set_num t.num) (HN7.out.2.setc 8 (.int .u64 t.num)));generalize w7.setCell ⟨N,8,none⟩ (.int .u64 t.num)=w8 at HA9 HN8 ⊢;clear y4 y8 z8;refine (HWA.out w8 HA9.out.p).mono ?_;rintro e w9 ⟨rfl,hat⟩;have HA10:=zz (HA9.out.trans hat);have HX9:=zz ((HN8.out.1.at_ hat HWN.out.2).fin (HN8.out.2.at_ hat HWN.out.2));clear hat;go_wp2_with fail;go_returns;rw [HM.out];exact ⟨_,rfl,HA10.out,fun _=>HX9.out⟩
 · have ek:(t.kind==3)=false:=beq_eq_false_iff_ne.2 hk3;have ek4:(t.kind==4)=true:=beq_iff_eq.2 hk;have H3:=zz (by have:=H3.out; rw [if_neg hk3,if_pos hk] at this; exact this);clear hk hk3;have HX6:Hid (w5.cell? ⟨Q,4,none⟩=some (.int .u64 t.num)):=zz x4;have HA6:=HA5;have HN6:=HN5;go_wp2_with fail;clear x0 x1 x2 x3 x4 x5;obtain ⟨w6,h6⟩:∃ W,w5=W:=⟨_,rfl⟩;rw [h6] at HX6 HA6 HN6 ⊢;clear h6;have HA7:Hid (At w w6 K σ3):=zz (by rw [← H3.out]; exact HA6.out);refine (HNX3.out w6 HA7.out.p).mono ?_;rintro e w7 ⟨rfl,hat⟩;have HA8:=zz (HA7.out.trans hat);have HN7:=zz (And.intro (HN6.out.1.at_ hat HWN.out.2) (HN6.out.2.at_ hat HWN.out.2));have y4:w7.cell? ⟨Q,4,none⟩=some (.int .u64 t.num):=hat.k.cell HX6.out (fun e=>by have e2:Q=K.P:=e; have:=HS.out.lt; have:=HWQ.out.1; omega);clear hat;have y8:w7.cell? ⟨N,8,none⟩=some (.int .u64 0):=HN7.out.1.c (j:=8) rfl;have z8:w7.frozen? ⟨N,8,none⟩=false:=HN7.out.1.f 8;go_wp2_with fail;have HA9:=zz (HA8.out.newR HS.out ((Keeps.refl (fun q=>q=N) w7).setCell (p:=⟨N,8,none⟩) (.inl rfl) (.int .u64 t.num)) HWN.out.1);have HN8:=zz (And.intro (HN7.out.1.set_num t.num) (HN7.out.2.setc 8 (.int .u64 t.num)));generalize w7.setCell ⟨N,8,none⟩ (.int .u64 t.num)=w8 at HA9 HN8 ⊢;clear y4 y8 z8;refine (HWA.out w8 HA9.out.p).mono ?_;rintro e w9 ⟨rfl,hat⟩;have HA10:=zz (HA9.out.trans hat);have HX9:=zz ((HN8.out.1.at_ hat HWN.out.2).fin (HN8.out.2.at_ hat HWN.out.2));clear hat;go_wp2_with fail;go_returns;rw [HM.out];exact ⟨_,rfl,HA10.out,fun _=>HX9.out⟩
 · have ek:(t.kind==3)=false:=beq_eq_false_iff_ne.2 hk3;have ek4:(t.kind==4)=false:=beq_eq_false_iff_ne.2 hk;have H3:=zz (by have:=H3.out; rw [if_neg hk3,if_neg hk] at this; exact this);have HLO:=zz (fun W (hs:PS W K σ2)=>lost_any K σ2 W hs);clear hk hk3;go_wp2_with fail;refine (HLO.out w5 HA5.out.p).mono ?_;rintro e w6 ⟨rfl,hat⟩;have HX6:Hid (w6.cell? ⟨Q,4,none⟩=some (.int .u64 t.num)):=zz (hat.k.cell x4 (fun e=>by have e2:Q=K.P:=e; have:=HS.out.lt; have:=HWQ.out.1; omega));have HA6:=zz (HA5.out.trans hat);have HN6:=zz (And.intro (HN5.out.1.at_ hat HWN.out.2) (HN5.out.2.at_ hat HWN.out.2));clear hat x0 x1 x2 x3 x4 x5;go_wp2_with fail;have HA7:Hid (At w w6 K σ3):=zz (by rw [← H3.out]; exact HA6.out);refine (HNX3.out w6 HA7.out.p).mono ?_;rintro e w7 ⟨rfl,hat⟩;have HA8:=zz (HA7.out.trans hat);have HN7:=zz (And.intro (HN6.out.1.at_ hat HWN.out.2) (HN6.out.2.at_ hat HWN.out.2));have y4:w7.cell? ⟨Q,4,none⟩=some (.int .u64 t.num):=hat.k.cell HX6.out (fun e=>by have e2:Q=K.P:=e; have:=HS.out.lt; have:=HWQ.out.1; omega);clear hat;have y8:w7.cell? ⟨N,8,none⟩=some (.int .u64 0):=HN7.out.1.c (j:=8) rfl;have z8:w7.frozen? ⟨N,8,none⟩=false:=HN7.out.1.f 8;go_wp2_with fail;have HA9:=zz (HA8.out.newR HS.out ((Keeps.refl (fun q=>q=N) w7).setCell (p:=⟨N,8,none⟩) (.inl rfl) (.int .u64 t.num)) HWN.out.1);have HN8:=zz (And.intro (HN7.out.1.set_num t.num) (HN7.out.2.setc 8 (.int .u64 t.num)));generalize w7.setCell ⟨N,8,none⟩ (.int .u64 t.num)=w8 at HA9 HN8 ⊢;clear y4 y8 z8;refine (HWA.out w8 HA9.out.p).mono ?_;rintro e w9 ⟨rfl,hat⟩;have HA10:=zz (HA9.out.trans hat);have HX9:=zz ((HN8.out.1.at_ hat HWN.out.2).fin (HN8.out.2.at_ hat HWN.out.2));clear hat;go_wp2_with fail;go_returns;rw [HM.out];exact ⟨_,rfl,HA10.out,fun _=>HX9.out⟩
end Go.Proofs.YtjgkacggjhobmaaGreatDoor
