import Derived.Test.YtjgkacggjhobmaaGreatDoorProg
import Derived.WalkKit
import Derived.WalkSpells
import Derived.WalkLawsBesides
import Derived.RowKit3
import Derived.Handy
import Derived.Lib.Hide
import Derived.OneCell
import Derived.IntWalk
import Derived.KernelRfl
import Derived.Maps.OwnSet
import Derived.Maps.OwnOps
import Derived.Maps.Views
import Derived.StringKeys
import Derived.Test.YtjgkacggjhobmaaGreatDoorLyPkA
import Derived.BigQuiet
import Derived.Deep.QuietTactic
import Derived.Deep.DeepCutAuto
set_option maxRecDepth 100000
set_option maxHeartbeats 25600000
set_option linter.unusedSectionVars false
set_option linter.unusedSimpArgs false
set_option linter.unusedVariables false
namespace Go.Proofs.YtjgkacggjhobmaaGreatDoor
open Go.RowKit Go.Maps
section
variable {κ ε:Type} [DecidableEq κ]
def kget:List (κ × ε)→κ→Option ε
 | [],_=>none
 | (a,b)::l,k=>if a=k then some b else kget l k
def kdel:List (κ × ε)→κ→List (κ × ε)
 | [],_=>[]
 | (a,b)::l,k=>if a=k then kdel l k else (a,b)::kdel l k
def kput (l:List (κ × ε)) (k:κ) (v:ε):List (κ × ε):=(k,v)::kdel l k
theorem kget_cons (a:κ) (b:ε) (l:List (κ × ε)) (k:κ):kget ((a,b)::l) k=if a=k then some b else kget l k:=rfl
theorem kget_del_same (l:List (κ × ε)) (k:κ):kget (kdel l k) k=none:=by
 induction l with
 | nil=>rfl
 | cons p l ih =>
   obtain ⟨a,b⟩:=p;rw [kdel];split
   · exact ih
   · next h=>rw [kget_cons,if_neg h]; exact ih
theorem kget_del_other (l:List (κ × ε)) {k x:κ} (h:x≠k):kget (kdel l k) x=kget l x:=by
 induction l with
 | nil=>rfl
 | cons p l ih =>
   obtain ⟨a,b⟩:=p;rw [kdel,kget_cons];split
   · next e=>rw [if_neg (fun e'=>h (e'.symm.trans e)),ih]
   · rw [kget_cons,ih]
theorem kget_put_same (l:List (κ × ε)) (k:κ) (v:ε):kget (kput l k v) k=some v:=by rw [kput,kget_cons,if_pos rfl]
theorem kget_put_other (l:List (κ × ε)) {k x:κ} (v:ε) (h:x≠k):kget (kput l k v) x=kget l x:=by rw [kput,kget_cons,if_neg (fun e=>h e.symm),kget_del_other l h]
theorem kdel_len (l:List (κ × ε)) (k:κ):(kdel l k).length≤l.length:=by
 induction l with
 | nil=>exact Nat.le_refl _
 | cons p l ih =>
   obtain ⟨a,b⟩:=p;rw [kdel];split
   · rw [List.length_cons]; omega
   · rw [List.length_cons,List.length_cons]; omega
theorem kdel_none {l:List (κ × ε)} {k:κ} (h:kget l k=none):kdel l k=l:=by
 induction l with
 | nil=>rfl
 | cons p l ih =>
   obtain ⟨a,b⟩:=p;rw [kget_cons] at h;rw [kdel];split
   · next e=>rw [if_pos e] at h; cases h
   · next e=>rw [if_neg e] at h; rw [ih h]
def KOnce:List (κ × ε)→Prop
 | []=>True
 | (a,_)::l=>kget l a=none∧KOnce l
theorem KOnce.del {l:List (κ × ε)} (h:KOnce l) (k:κ):KOnce (kdel l k):=by
 induction l with
 | nil=>trivial
 | cons p l ih =>
   obtain ⟨a,b⟩:=p;rw [kdel];split
   · exact ih h.2
   · next e=>exact ⟨by rw [kget_del_other l e]; exact h.1,ih h.2⟩
theorem KOnce.put {l:List (κ × ε)} (h:KOnce l) (k:κ) (v:ε):KOnce (kput l k v):=⟨kget_del_same l k,h.del k⟩
theorem kdel_len_some {l:List (κ × ε)} {k:κ} {v:ε} (ho:KOnce l) (h:kget l k=some v):(kdel l k).length+1=l.length:=by
 induction l with
 | nil=>cases h
 | cons p l ih =>
   obtain ⟨a,b⟩:=p;rw [kdel];rw [kget_cons] at h;split
   · next e=>subst e; rw [kdel_none ho.1,List.length_cons]
   · next e=>rw [if_neg e] at h; have:=ih ho.2 h; rw [List.length_cons,List.length_cons]; omega
theorem kput_len {l:List (κ × ε)} (ho:KOnce l) (k:κ) (v:ε):(kput l k v).length=if (kget l k).isSome=true then l.length else l.length+1:=by
 rw [kput,List.length_cons];cases h:kget l k with
 | none=>rw [kdel_none h]; rfl
 | some x=>have:=kdel_len_some ho h; simp; omega
theorem kput_le (l:List (κ × ε)) (k:κ) (v:ε):(kput l k v).length≤l.length+1:=by rw [kput,List.length_cons]; have:=kdel_len l k; omega
end
structure ML (P:Program) (κ ε:Type) where
 tm:TypeId
 tk:TypeId
 te:TypeId
 keyed:Keyed P tk
 und:P.underlying tm=some (.map tk te)
 kv:κ→Value
 kl:κ→Lit
 kok:κ→Prop
 hkey:∀ k,kok k→keyOf P tk (kv k)=some (kl k)
 kvinj:∀ a b,kv a=kv b→a=b
 R:Value→Option (DataW Unit × List MemPlace)
 ev:ε→Value
 ed:ε→DataW Unit
 eok:ε→Prop
 hR:∀ x,eok x→R (ev x)=some (ed x,[])
 hinv:∀ v x ps,R v=some (ed x,ps)→v=ev x
 z:ε
 zok:eok z
 hz:∀ w:World,(zeroValue te).run P w=.ok (ev z) w
section
variable {κ ε:Type} [DecidableEq κ] {P:Program} (M:ML P κ ε)
theorem ML.kne {a b:κ} (ha:M.kok a) (hb:M.kok b) (h:a≠b):M.kl a≠M.kl b:=fun e=>h (M.kvinj _ _ (M.keyed.inj (M.hkey a ha) (by rw [e]; exact M.hkey b hb)))
theorem ML.kkey {a:κ} (ha:M.kok a):WideAt.IsKeyLit (M.kl a):=M.keyed.key (M.hkey a ha)
structure MapK (w:World) (b:Nat) (al:List (κ × ε)):Prop where
 once:KOnce al
 kok:∀ k v,kget al k=some v→M.kok k∧M.eok v
 ex:∃ (n:Nat) (D:DataW Unit),w.ownsMap P M.tk M.R b n D∧Tidy D∧Maps.size D=al.length∧∀ k,M.kok k→has D (M.kl k)=(kget al k).isSome∧D.atKey (M.kl k) (M.ed M.z)=M.ed ((kget al k).getD M.z)
variable {M} {w w':World} {b:Nat} {al:List (κ × ε)}
theorem MapK.made (w:World):MapK M (w.alloc (.map #[] 0)) w.heap.size [] :=
 ⟨trivial,(fun k v h=>by cases h),0,_,World.ownsMap_made _ _ _ _,tidy_empty,rfl,fun k _=>⟨rfl,rfl⟩⟩
theorem MapK.kept {row:Option Nat} (h:MapK M w b al) (hg:w.grownBy w' row) (hne:some b≠row):MapK M w' b al:=by
 obtain ⟨n,D,h1,h2⟩:=h.ex;exact ⟨h.once,h.kok,n,D,h1.kept hg hne,h2⟩
theorem MapK.alloc (h:MapK M w b al) (o:Obj):MapK M (w.alloc o) b al:=h.kept (World.grownBy_alloc w o none) (by simp)
theorem MapK.setCell (h:MapK M w b al) {p:Addr} (hp:b≠p.block) (u:Value):MapK M (w.setCell p u) b al:=by
 obtain ⟨n,D,h1,h2⟩:=h.ex;exact ⟨h.once,h.kok,n,D,h1.setCell hp u,h2⟩
theorem MapK.lt (h:MapK M w b al):b < w.heap.size:=by
 obtain ⟨n,D,h1,h2⟩:=h.ex;exact h1.lt
theorem MapK.block (h:MapK M w b al) (hb:w'.heap[b]?=w.heap[b]?):MapK M w' b al:=by
 obtain ⟨n,D,⟨es,clock,k1,k2⟩,h2⟩:=h.ex;exact ⟨h.once,h.kok,n,D,⟨es,clock,hb.trans k1,k2⟩,h2⟩
theorem MapK.below (h:MapK M w b al) (hb:Below w.heap.size w w'):MapK M w' b al:=h.block (hb.block b h.lt)
theorem MapK.drewN (h:MapK M w b al) (n:Nat):MapK M (w.drewN n) b al:=h.block rfl
theorem MapK.size_own {n:Nat} {D:DataW Unit} (h:w.ownsMap P M.tk M.R b n D):w.ownsMap P M.tk M.R b (Maps.size D) D:=by
 obtain ⟨es,clock,hb,F,hs,rfl⟩:=h;refine ⟨es,clock,hb,F,?_,rfl⟩;have e1:Maps.size (DataW.map ((es.toList.map (WideElems.rg P M.tk M.R)).foldr DataW.insert []))=es.size:=by simp [Maps.size,length_sorted]
 rw [e1]; exact Nat.le_refl _
theorem MapK.look (h:MapK M w b al) {k:κ} (hk:M.kok k):(Instr.lookup M.tm (.map (some b)) (M.kv k) false).run P w=.ok (M.ev ((kget al k).getD M.z)) w:=by
 obtain ⟨n,D,h1,h2,h3,h4⟩:=h.ex;obtain ⟨v,ps,hrun,hv⟩:=h1.lookup M.keyed M.und (M.hz w) (M.hR M.z M.zok) (M.hkey k hk);rw [(h4 k hk).2] at hv;rw [hrun,M.hinv _ _ _ hv]
theorem MapK.lookok (h:MapK M w b al) {k:κ} (hk:M.kok k):(Instr.lookup M.tm (.map (some b)) (M.kv k) true).run P w=.ok (.tuple #[M.ev ((kget al k).getD M.z),.bool (kget al k).isSome]) w:=by
 obtain ⟨n,D,h1,h2,h3,h4⟩:=h.ex;obtain ⟨v,ps,hrun,hv⟩:=h1.look_ok M.keyed M.und (M.hz w) (M.hR M.z M.zok) (M.hkey k hk);rw [(h4 k hk).2] at hv;rw [hrun,(h4 k hk).1,M.hinv _ _ _ hv]
theorem MapK.put (h:MapK M w b al) (hn:al.length < maxLen) {k:κ} {y:ε} (hk:M.kok k) (hy:M.eok y):∃ w',(Instr.mapUpdate M.tm (.map (some b)) (M.kv k) (M.ev y)).run P w=.ok () w'∧MapK M w' b (kput al k y)∧w.mapTurned w' b:=by
 obtain ⟨n,D,h1,h2,h3,h4⟩:=h.ex;have h1':=MapK.size_own h1;rw [h3] at h1';obtain ⟨w',hrun,g1,g2⟩:=h1'.store M.keyed M.und hn (M.hkey k hk) (M.hR y hy);refine ⟨w',hrun,⟨h.once.put k y,fun q z hz=>?_,_,_,g1,h2.put (k:=M.kl k) (M.kkey hk) _,?_,fun q hq=>?_⟩,g2⟩
 · by_cases e:q=k
   · subst e; rw [kget_put_same] at hz; injection hz with hz; subst hz; exact ⟨hk,hy⟩
   · rw [kget_put_other _ _ e] at hz; exact h.kok q z hz
 · rw [size_put h2,(h4 k hk).1,kput_len h.once,h3]
 · by_cases e:q=k
   · subst e; rw [kget_put_same,has_put_same (k:=M.kl q) h2.isMap (M.kkey hk),atKey_put_same (k:=M.kl q) h2.isMap (M.kkey hk)]; exact ⟨rfl,rfl⟩
   · rw [kget_put_other _ _ e,has_put_other (M.kne hq hk e),atKey_put_other (M.kne hq hk e)]; exact h4 q hq
theorem MapK.drop (h:MapK M w b al) {k:κ} (hk:M.kok k) (ty:TypeId):∃ w',(Builtin.delete_ #[M.tm,M.tk] ty #[.map (some b),M.kv k]).run P w=.ok (.tuple #[]) w'∧MapK M w' b (kdel al k)∧w.mapTurned w' b:=by
 obtain ⟨n,D,h1,h2,h3,h4⟩:=h.ex;obtain ⟨w',hrun,g1,g2⟩:=h1.drop M.keyed M.und (M.hkey k hk) ty;refine ⟨w',hrun,⟨h.once.del k,fun q z hz=>?_,_,_,g1,h2.del _,?_,fun q hq=>?_⟩,g2⟩
 · by_cases e:q=k
   · subst e; rw [kget_del_same] at hz; cases hz
   · rw [kget_del_other _ e] at hz; exact h.kok q z hz
 · have:=size_del (k:=M.kl k) h2;rw [(h4 k hk).1,h3] at this;cases hq:kget al k with
   | none=>rw [hq] at this; rw [kdel_none hq]; simpa using this
   | some z=>rw [hq] at this; have:=kdel_len_some h.once hq; simp at *; omega
 · by_cases e:q=k
   · subst e; rw [kget_del_same,has_del_same,atKey_del_same]; exact ⟨rfl,rfl⟩
   · rw [kget_del_other _ e,has_del_other (M.kne hq hk e),atKey_del_other (M.kne hq hk e)]; exact h4 q hq
end
end Go.Proofs.YtjgkacggjhobmaaGreatDoor
namespace Go.Proofs.YtjgkacggjhobmaaGreatDoor.Lx
open Go.RowKit
def pk (s:ByteArray) (i:Nat):Int:=if h:i < s.size then (s[i].toNat:Int) else 0
theorem pk_lt {s:ByteArray} {i:Nat} (h:i < s.size):pk s i=(s[i].toNat:Int):=dif_pos h
theorem pk_ge {s:ByteArray} {i:Nat} (h:¬ i < s.size):pk s i=0:=dif_neg h
theorem pk_bd (s:ByteArray) (i:Nat):0≤pk s i∧pk s i≤255:=by
 unfold pk;split
 · have:=s[i].toNat_lt; omega
 · decide
theorem pk_in {s:ByteArray} {i:Nat} (h:pk s i≠0):i < s.size:=by
 by_cases h':i < s.size
 · exact h'
 · exact absurd (pk_ge h') h
def digB (c:Int):Bool:=decide (48≤c∧c≤57)
def letB (c:Int):Bool:=decide (97≤c∧c≤122∨65≤c∧c≤90∨c=95)
def inB (c:Int):Bool:=letB c || digB c
def blankB (c:Int):Bool:=decide (c=32∨c=9∨c=10∨c=13)
def valB (base c:Int):Int :=
 if digB c=true then c - 48 else if base=16∧97≤c∧c≤102 then c - 87 else if base=16∧65≤c∧c≤70 then c - 55 else -1
theorem digB_iff (c:Int):digB c=true ↔ 48≤c∧c≤57:=by unfold digB; exact decide_eq_true_iff
theorem letB_iff (c:Int):letB c=true ↔ (97≤c∧c≤122∨65≤c∧c≤90∨c=95):=by unfold letB; exact decide_eq_true_iff
theorem blankB_iff (c:Int):blankB c=true ↔ (c=32∨c=9∨c=10∨c=13):=by unfold blankB; exact decide_eq_true_iff
theorem inB_iff (c:Int):inB c=true ↔ (letB c=true∨digB c=true):=by unfold inB; exact Bool.or_eq_true _ _ |>.to_iff
theorem valB_bd (base c:Int):-1≤valB base c∧valB base c≤15:=by
 unfold valB;by_cases h:digB c=true
 · rw [if_pos h]; rw [digB_iff] at h; omega
 · rw [if_neg h]; split <;> (try split) <;> omega
def scan (p:Nat→Bool):Nat→Nat→Nat
 | 0,i=>i
 | f+1,i=>if p i=true then scan p f (i+1) else i
theorem scan_yes {p:Nat→Bool} {f i:Nat} (h:p i=true):scan p (f+1) i=scan p f (i+1):=by rw [scan,if_pos h]
theorem scan_no {p:Nat→Bool} {f i:Nat} (h:p i=false):scan p f i=i:=by
 cases f
 · rfl
 · rw [scan,if_neg (by rw [h]; decide)]
theorem scan_ge (p:Nat→Bool) (f i:Nat):i≤scan p f i:=by
 induction f generalizing i with
 | zero=>exact Nat.le_refl _
 | succ f ih =>
   rw [scan];split
   · exact Nat.le_trans (Nat.le_succ _) (ih _)
   · exact Nat.le_refl _
theorem scan_all (p:Nat→Bool) (f i k:Nat) (h:i≤k) (hk:k < scan p f i):p k=true:=by
 induction f generalizing i with
 | zero=>simp [scan] at hk; omega
 | succ f ih =>
   rw [scan] at hk;by_cases hp:p i=true
   · rw [if_pos hp] at hk;by_cases he:k=i
     · rw [he]; exact hp
     · exact ih (i+1) (by omega) hk
   · rw [if_neg hp] at hk; omega
theorem scan_end (p:Nat→Bool) (n f i:Nat) (hf:n≤i+f) (hp:∀ k,n≤k→p k=false):p (scan p f i)=false:=by
 induction f generalizing i with
 | zero=>exact hp i (by omega)
 | succ f ih =>
   rw [scan];by_cases h:p i=true
   · rw [if_pos h]; exact ih (i+1) (by omega)
   · rw [if_neg h]; simpa using h
theorem scan_le (p:Nat→Bool) (n f i:Nat) (hi:i≤n) (hp:∀ k,n≤k→p k=false):scan p f i≤n:=by
 by_cases h:scan p f i≤n
 · exact h
 · have:=scan_all p f i n hi (by omega);rw [hp n (Nat.le_refl _)] at this; cases this
def lineP (s:ByteArray) (k:Nat):Bool:=decide (k < s.size)&&!(pk s k==10)&&!(pk s k==13)
def blockP (s:ByteArray) (k:Nat):Bool:=decide (k+1 < s.size)&&!(pk s k==42&&pk s (k+1)==47)
def nameP (s:ByteArray) (k:Nat):Bool:=inB (pk s k)
def lineEnd (s:ByteArray) (i:Nat):Nat:=scan (lineP s) s.size i
def blockEnd (s:ByteArray) (i:Nat):Nat:=scan (blockP s) s.size i
def nameEnd (s:ByteArray) (i:Nat):Nat:=scan (nameP s) s.size i
theorem lineP_ge (s:ByteArray) (k:Nat) (h:s.size≤k):lineP s k=false:=by unfold lineP; rw [decide_eq_false (by omega)]; rfl
theorem blockP_ge (s:ByteArray) (k:Nat) (h:s.size≤k+1):blockP s k=false:=by unfold blockP; rw [decide_eq_false (by omega)]; rfl
theorem nameP_ge (s:ByteArray) (k:Nat) (h:s.size≤k):nameP s k=false:=by unfold nameP; rw [pk_ge (by omega)]; rfl
def gap (s:ByteArray):Nat→Nat→Nat × Bool
 | 0,i=>(i,true)
 | f+1,i =>
   if i < s.size then
    if blankB (pk s i)=true then gap s f (i+1)
    else if pk s i=47∧pk s (i+1)=47 then gap s f (lineEnd s i)
    else if pk s i=47∧pk s (i+1)=42 then
     if blockEnd s (i+2)+1 < s.size then gap s f (blockEnd s (i+2)+2) else (i,false)
    else (i,true)
   else (i,true)
theorem gap_end {s:ByteArray} {f i:Nat} (h:¬ i < s.size):gap s f i=(i,true):=by
 cases f
 · rfl
 · rw [gap,if_neg h]
theorem gap_blank {s:ByteArray} {f i:Nat} (h:i < s.size) (hb:blankB (pk s i)=true):gap s (f+1) i=gap s f (i+1):=by rw [gap,if_pos h,if_pos hb]
theorem gap_line {s:ByteArray} {f i:Nat} (h:i < s.size) (h1:pk s i=47) (h2:pk s (i+1)=47):gap s (f+1) i=gap s f (lineEnd s i):=by
 rw [gap,if_pos h,if_neg (by rw [h1]; decide),if_pos ⟨h1,h2⟩]
theorem gap_block {s:ByteArray} {f i:Nat} (h:i < s.size) (h1:pk s i=47) (h2:pk s (i+1)=42) :
    gap s (f+1) i=if blockEnd s (i+2)+1 < s.size then gap s f (blockEnd s (i+2)+2) else (i,false):=by
 rw [gap,if_pos h,if_neg (by rw [h1]; decide),if_neg (by rw [h2]; omega),if_pos ⟨h1,h2⟩]
theorem gap_stop {s:ByteArray} {f i:Nat} (hb:blankB (pk s i)=false) (h1:¬ (pk s i=47∧pk s (i+1)=47)) (h2:¬ (pk s i=47∧pk s (i+1)=42)):gap s f i=(i,true):=by
 cases f
 · rfl
 · by_cases h0:i < s.size
   · rw [gap,if_pos h0,if_neg (by rw [hb]; decide),if_neg h1,if_neg h2]
   · exact gap_end h0
theorem lineEnd_gt {s:ByteArray} {i:Nat} (h:i < s.size) (h1:pk s i=47):i < lineEnd s i:=by
 have hp:lineP s i=true:=by unfold lineP; rw [decide_eq_true h,h1]; rfl
 unfold lineEnd;cases hs:s.size with
 | zero=>omega
 | succ n=>rw [scan_yes hp]; exact Nat.lt_of_lt_of_le (Nat.lt_succ_self _) (scan_ge _ _ _)
theorem lineEnd_le {s:ByteArray} {i:Nat} (h:i≤s.size):lineEnd s i≤s.size:=scan_le _ _ _ _ h (fun k hk=>lineP_ge s k hk)
theorem blockEnd_ge (s:ByteArray) (i:Nat):i≤blockEnd s i:=scan_ge _ _ _
def blockAt (s:ByteArray) (b:Nat):Nat:=if b+1 < s.size then b+2 else b
theorem blockAt_yes {s:ByteArray} {b:Nat} (h:b+1 < s.size):blockAt s b=b+2:=if_pos h
theorem blockAt_no {s:ByteArray} {b:Nat} (h:¬ b+1 < s.size):blockAt s b=b:=if_neg h
theorem gap_bd {s:ByteArray} (f i:Nat) (h:i≤s.size):i≤(gap s f i).1∧(gap s f i).1≤s.size:=by
 induction f generalizing i with
 | zero=>exact ⟨Nat.le_refl _,h⟩
 | succ f ih =>
   rw [gap];split
   · next h0 =>
     split
     · have:=ih (i+1) (by omega); exact ⟨by omega,this.2⟩
     · split
       · next h1=>have:=ih _ (lineEnd_le h); exact ⟨by have:=lineEnd_gt h0 h1.1; omega,this.2⟩
       · split
         · split
           · have h3:=blockEnd_ge s (i+2); have:=ih (blockEnd s (i+2)+2) (by omega); exact ⟨by omega,this.2⟩
           · exact ⟨Nat.le_refl _,h⟩
         · exact ⟨Nat.le_refl _,h⟩
   · exact ⟨Nat.le_refl _,h⟩
end Go.Proofs.YtjgkacggjhobmaaGreatDoor.Lx
namespace Go.Proofs.YtjgkacggjhobmaaGreatDoor.Lx
open Go.RowKit
def wordB (t:ByteArray):Bool :=
 (t.toList==[118,111,105,100]) || (t.toList==[99,104,97,114]) || (t.toList==[115,104,111,114,116]) || (t.toList==[105,110,116]) || (t.toList==[108,111,110,103]) || (t.toList==[117,110,115,105,103,110,101,100]) || (t.toList==[115,116,114,117,99,116]) || (t.toList==[116,121,112,101,100,101,102])
  || (t.toList==[105,102]) || (t.toList==[101,108,115,101]) || (t.toList==[119,104,105,108,101]) || (t.toList==[100,111]) || (t.toList==[102,111,114]) || (t.toList==[115,119,105,116,99,104]) || (t.toList==[99,97,115,101]) || (t.toList==[100,101,102,97,117,108,116])
  || (t.toList==[98,114,101,97,107]) || (t.toList==[99,111,110,116,105,110,117,101]) || (t.toList==[114,101,116,117,114,110]) || (t.toList==[103,111,116,111]) || (t.toList==[115,105,122,101,111,102])
def signM (c d e:Int):Nat :=
 if c=60∨c=62 then (if d=c∧e=61 then 3 else if d=c∨d=61 then 2 else 1)
 else if c=45 then (if d=61∨d=62 then 2 else 1)
 else if c=38∨c=124 then (if d=61∨d=c then 2 else 1)
 else if c=43∨c=42∨c=47∨c=37∨c=94∨c=61∨c=33 then (if d=61 then 2 else 1)
 else if c=126∨c=40∨c=41∨c=91∨c=93∨c=123∨c=125∨c=44∨c=59∨c=58∨c=63∨c=46 then 1 else 0
theorem signM_le (c d e:Int):signM c d e≤3:=by
 unfold signM; (repeat' split) <;> omega
def sufLen (s:ByteArray) (k:Nat):Nat:=if pk s k=117 then (if pk s (k+1)=108 then 2 else 1) else if pk s k=108 then 1 else 0
def sufStr (s:ByteArray) (k:Nat):ByteArray:=if pk s k=117 then (if pk s (k+1)=108 then ⟨#[117,108]⟩ else ⟨#[117]⟩) else if pk s k=108 then ⟨#[108]⟩ else ⟨#[]⟩
theorem sufLen_le {s:ByteArray} {k:Nat} (hk:k≤s.size):k+sufLen s k≤s.size:=by
 unfold sufLen;split
 · next h =>
   have:=pk_in (s:=s) (i:=k) (by rw [h]; decide);split
   · next h1=>have:=pk_in (s:=s) (i:=k+1) (by rw [h1]; decide); omega
   · omega
 · split
   · next h=>have:=pk_in (s:=s) (i:=k) (by rw [h]; decide); omega
   · omega
def chM (s:ByteArray) (i:Nat):Int × Nat × Int :=
 if pk s (i+1)=92 then
  if pk s (i+2)=110∨pk s (i+2)=48∨pk s (i+2)=92∨pk s (i+2)=39 then
   if pk s (i+3)=39 then (0,4,if pk s (i+2)=110 then 10 else if pk s (i+2)=48 then 0 else pk s (i+2)) else (3,0,0)
  else (3,0,0)
 else if pk s (i+1) < 32∨126 < pk s (i+1)∨pk s (i+1)=39 then (3,0,0)
 else if pk s (i+2)=39 then (0,3,pk s (i+1)) else (3,0,0)
def digs (s:ByteArray) (b:Int):Nat→Nat→Int→Bool→Nat × Int × Bool
 | 0,k,n,ok=>(k,n,ok)
 | f+1,k,n,ok=>if 0≤valB b (pk s k) then digs s b f (k+1) ((n * b+valB b (pk s k)) % 18446744073709551616) (ok&&decide (n≤(18446744073709551615 - valB b (pk s k)) / b)) else (k,n,ok)
theorem digs_yes {s:ByteArray} {b:Int} {f k:Nat} {n:Int} {ok:Bool} (h:0≤valB b (pk s k)) :
    digs s b (f+1) k n ok=digs s b f (k+1) ((n * b+valB b (pk s k)) % 18446744073709551616) (ok&&decide (n≤(18446744073709551615 - valB b (pk s k)) / b)):=by rw [digs,if_pos h]
theorem digs_no {s:ByteArray} {b:Int} {f k:Nat} {n:Int} {ok:Bool} (h:¬ 0≤valB b (pk s k)):digs s b f k n ok=(k,n,ok):=by
 cases f
 · rfl
 · rw [digs,if_neg h]
theorem valB_in {s:ByteArray} {b:Int} {k:Nat} (h:0≤valB b (pk s k)):k < s.size:=by
 by_cases h':k < s.size
 · exact h'
 · rw [pk_ge h'] at h;have:valB b 0=-1:=by unfold valB digB; rw [if_neg (by decide),if_neg (by omega),if_neg (by omega)]
   rw [this] at h; exact absurd h (by decide)
theorem digs_bd {s:ByteArray} {b:Int} (f k:Nat) (n:Int) (ok:Bool) (hn:0≤n∧n≤18446744073709551615) (hk:k≤s.size) :
    k≤(digs s b f k n ok).1∧(digs s b f k n ok).1≤s.size∧0≤(digs s b f k n ok).2.1∧(digs s b f k n ok).2.1≤18446744073709551615:=by
 induction f generalizing k n ok with
 | zero=>exact ⟨Nat.le_refl _,hk,hn.1,hn.2⟩
 | succ f ih =>
   rw [digs];split
   · next h =>
     have h1:=valB_in h;have:=ih (k+1) ((n * b+valB b (pk s k)) % 18446744073709551616) (ok&&decide (n≤(18446744073709551615 - valB b (pk s k)) / b)) (by omega) (by omega);exact ⟨by omega,this.2⟩
   · exact ⟨Nat.le_refl _,hk,hn.1,hn.2⟩
def digM (s:ByteArray) (b:Int) (k:Nat):Nat × Int × Bool:=if b=10∧pk s k=48 then (k+1,0,true) else digs s b s.size k 0 true
theorem digM_bd {s:ByteArray} {b:Int} {k:Nat} (hk:k≤s.size):k≤(digM s b k).1∧(digM s b k).1≤s.size∧0≤(digM s b k).2.1∧(digM s b k).2.1≤18446744073709551615:=by
 unfold digM;split
 · next h=>have:=pk_in (s:=s) (i:=k) (by rw [h.2]; decide); exact ⟨by show k≤k+1; omega,by show k+1≤_; omega,Int.le_refl _,by show (0:Int)≤_; decide⟩
 · exact digs_bd _ _ _ _ ⟨by decide,by decide⟩ hk
def nameM (s:ByteArray) (i e:Nat):Int × Int:=if 30 < e - i then (6,0) else if wordB (s.extract i e)=true then (0,2) else (0,1)
theorem nameEnd_bd {s:ByteArray} {i:Nat} (hi:i≤s.size):i≤nameEnd s i∧nameEnd s i≤s.size :=
 ⟨scan_ge _ _ _,scan_le _ _ _ _ hi (fun k hk=>nameP_ge s k hk)⟩
def nEnd (s:ByteArray) (b:Int) (k:Nat):Nat:=(digM s b k).1+sufLen s (digM s b k).1
def nCode (s:ByteArray) (b:Int) (k:Nat):Int:=if inB (pk s (nEnd s b k))=true then 3 else if (digM s b k).2.2=true then 0 else 6
structure NumR where
 code:Int
 j:Nat
 kind:Int
 suf:ByteArray
 num:Int
 hex:Bool
def bad (code:Int) (j:Nat):NumR:=⟨code,j,0,⟨#[]⟩,0,false⟩
def tailM (s:ByteArray) (b:Int) (k:Nat) (hex:Bool):NumR:=if nCode s b k=0 then ⟨0,nEnd s b k,3,sufStr s (digM s b k).1,(digM s b k).2.1,hex⟩ else bad (nCode s b k) (nEnd s b k)
def numberM (s:ByteArray) (i:Nat):NumR :=
 if pk s i=48∧pk s (i+1)=120 then (if valB 16 (pk s (i+2)) < 0 then bad 3 (i+2) else tailM s 16 (i+2) true) else tailM s 10 i false
def chK (s:ByteArray) (i:Nat):Int:=if (chM s i).1=0 then 4 else 0
def tokenM (s:ByteArray) (i:Nat):NumR :=
 if letB (pk s i)=true then ⟨(nameM s i (nameEnd s i)).1,nameEnd s i,(nameM s i (nameEnd s i)).2,⟨#[]⟩,0,false⟩
 else if digB (pk s i)=true then numberM s i
 else if pk s i=39 then ⟨(chM s i).1,i+(chM s i).2.1,chK s i,⟨#[]⟩,(chM s i).2.2,false⟩
 else if signM (pk s i) (pk s (i+1)) (pk s (i+2))=0 then bad 3 i else ⟨0,i+signM (pk s i) (pk s (i+1)) (pk s (i+2)),5,⟨#[]⟩,0,false⟩
end Go.Proofs.YtjgkacggjhobmaaGreatDoor.Lx
namespace Go.Proofs.YtjgkacggjhobmaaGreatDoor.Lx
open Go.RowKit
structure Tk where
 kind:Int
 at_:Nat
 text:ByteArray
 suf:ByteArray
 num:Int
 hex:Bool
def Tk.cells (t:Tk):List Value:=[.int .i64 t.kind,.int .i64 (t.at_:Int),.string t.text,.string t.suf,.int .u64 t.num,.bool t.hex]
def rowOf (l:List Tk):List Value:=l.flatMap Tk.cells
theorem rowOf_snoc (l:List Tk) (t:Tk):rowOf (l++[t])=rowOf l++t.cells:=by unfold rowOf; rw [List.flatMap_append]; simp
structure TkR where
 l:List Tk
 code:Int
 pos:Int
def tkOf (s:ByteArray) (i:Nat) (t:NumR):Tk:=⟨t.kind,i,s.extract i t.j,t.suf,t.num,t.hex⟩
def toksM (s:ByteArray):Nat→Nat→List Tk→TkR
 | 0,_,acc=>⟨acc,0,0⟩
 | f+1,i,acc =>
   if (gap s s.size i).2=false then ⟨[],3,((gap s s.size i).1:Int)⟩
   else if (gap s s.size i).1=s.size then ⟨acc,0,0⟩
   else if (tokenM s (gap s s.size i).1).code≠0 then ⟨[],(tokenM s (gap s s.size i).1).code,((gap s s.size i).1:Int)⟩
   else if acc.length=6000 then ⟨[],6,((gap s s.size i).1:Int)⟩
   else toksM s f (tokenM s (gap s s.size i).1).j (acc++[tkOf s (gap s s.size i).1 (tokenM s (gap s s.size i).1)])
def tokensM (s:ByteArray):TkR:=if 20000 < s.size then ⟨[],6,0⟩ else toksM s (s.size+1) 0 []
section
variable {s:ByteArray} {f i g:Nat} {acc:List Tk}
theorem toks_bad (h:gap s s.size i=(g,false)):toksM s (f+1) i acc=⟨[],3,(g:Int)⟩:=by rw [toksM,h]; rfl
theorem toks_end (h:gap s s.size i=(g,true)) (hg:g=s.size):toksM s (f+1) i acc=⟨acc,0,0⟩:=by rw [toksM,h,if_neg (by simp),if_pos hg]
theorem toks_wrong (h:gap s s.size i=(g,true)) (hg:g≠s.size) (hc:(tokenM s g).code≠0):toksM s (f+1) i acc=⟨[],(tokenM s g).code,(g:Int)⟩:=by
 rw [toksM,h,if_neg (by simp),if_neg hg,if_pos hc]
theorem toks_many (h:gap s s.size i=(g,true)) (hg:g≠s.size) (hc:(tokenM s g).code=0) (hn:acc.length=6000):toksM s (f+1) i acc=⟨[],6,(g:Int)⟩:=by
 rw [toksM,h,if_neg (by simp),if_neg hg,if_neg (by rw [hc]; simp),if_pos hn]
theorem toks_more (h:gap s s.size i=(g,true)) (hg:g≠s.size) (hc:(tokenM s g).code=0) (hn:acc.length≠6000) :
    toksM s (f+1) i acc=toksM s f (tokenM s g).j (acc++[tkOf s g (tokenM s g)]):=by
 rw [toksM,h,if_neg (by simp),if_neg hg,if_neg (by rw [hc]; simp),if_neg hn]
end
theorem sufLen_le2 (s:ByteArray) (k:Nat):sufLen s k≤2:=by unfold sufLen; (repeat' split) <;> omega
theorem nEnd_bd {s:ByteArray} {b:Int} {k:Nat} (hk:k≤s.size):k≤nEnd s b k∧nEnd s b k≤s.size:=by
 have:=digM_bd (b:=b) hk;unfold nEnd;exact ⟨by omega,sufLen_le this.2.1⟩
theorem digs_gt {s:ByteArray} {b:Int} {k:Nat} {n:Int} {ok:Bool} (hk:k < s.size) (h:0≤valB b (pk s k)) (hn:0≤n∧n≤18446744073709551615):k < (digs s b s.size k n ok).1:=by
 cases hs:s.size with
 | zero=>omega
 | succ f =>
   rw [digs_yes h];have:=digs_bd (s:=s) (b:=b) f (k+1) ((n * b+valB b (pk s k)) % 18446744073709551616) (ok&&decide (n≤(18446744073709551615 - valB b (pk s k)) / b)) (by omega) (by omega);omega
theorem tokenM_bd {s:ByteArray} {i:Nat} (hi:i < s.size):((tokenM s i).code=0→i < (tokenM s i).j)∧(tokenM s i).j≤s.size∧(0≤(tokenM s i).num∧(tokenM s i).num≤18446744073709551615)∧(0≤(tokenM s i).code∧(tokenM s i).code≤6)∧(0≤(tokenM s i).kind∧(tokenM s i).kind≤5)∧(tokenM s i).suf.size≤2:=by
 have N0:(0:Int)≤0∧(0:Int)≤18446744073709551615:=by decide
 have C0:(0:Int)≤0∧(0:Int)≤6:=by decide
 have C3:(0:Int)≤3∧(3:Int)≤6:=by decide
 have C6:(0:Int)≤6∧(6:Int)≤6:=by decide
 have K0:(0:Int)≤0∧(0:Int)≤5:=by decide
 have K1:(0:Int)≤1∧(1:Int)≤5:=by decide
 have K2:(0:Int)≤2∧(2:Int)≤5:=by decide
 have K3:(0:Int)≤3∧(3:Int)≤5:=by decide
 have K4:(0:Int)≤4∧(4:Int)≤5:=by decide
 have K5:(0:Int)≤5∧(5:Int)≤5:=by decide
 have S0:(0:Nat)≤2:=by decide
 have suf2:∀ k,(sufStr s k).size≤2:=fun k=>by unfold sufStr; (repeat' split) <;> (try exact Nat.le_refl _) <;> (try exact Nat.zero_le _) <;> exact Nat.le_succ _
 have tl:∀ (b:Int) (k:Nat) (hex:Bool),k≤s.size→(i < nEnd s b k∨nCode s b k≠0)→(((tailM s b k hex).code=0→i < (tailM s b k hex).j)∧(tailM s b k hex).j≤s.size∧(0≤(tailM s b k hex).num∧(tailM s b k hex).num≤18446744073709551615)∧(0≤(tailM s b k hex).code∧(tailM s b k hex).code≤6)∧(0≤(tailM s b k hex).kind∧(tailM s b k hex).kind≤5)∧(tailM s b k hex).suf.size≤2):=fun b k hex hk hgt=>by
  have h1:=nEnd_bd (b:=b) hk;have h2:=digM_bd (b:=b) hk;unfold tailM;by_cases hc:nCode s b k=0
  · rw [if_pos hc];exact ⟨fun _=>hgt.resolve_right (fun h=>h hc),h1.2,h2.2.2,C0,K3,suf2 _⟩
  · rw [if_neg hc];refine ⟨fun h=>absurd h hc,h1.2,N0,?_,K0,S0⟩;show 0≤nCode s b k∧nCode s b k≤6;unfold nCode; (repeat' split) <;> first | exact C0 | exact C3 | exact C6
 unfold tokenM;split
 · next hL =>
   have hb:=nameEnd_bd (s:=s) (i:=i) (by omega);have hgt:i < nameEnd s i:=by
    have hp:nameP s i=true:=by unfold nameP inB; rw [hL]; rfl
    unfold nameEnd;cases hs:s.size with
    | zero=>omega
    | succ n=>rw [scan_yes hp]; exact Nat.lt_of_lt_of_le (Nat.lt_succ_self _) (scan_ge _ _ _)
   refine ⟨fun _=>hgt,hb.2,N0,?_,?_,S0⟩
   · show 0≤(nameM s i (nameEnd s i)).1∧_≤(6:Int); unfold nameM; (repeat' split) <;> first | exact C0 | exact C6
   · show 0≤(nameM s i (nameEnd s i)).2∧_≤(5:Int); unfold nameM; (repeat' split) <;> first | exact K0 | exact K1 | exact K2
 · split
   · next hD =>
     unfold numberM;split
     · next hx =>
       have hk:i+2≤s.size:=by have:=pk_in (s:=s) (i:=i+1) (by rw [hx.2]; decide); omega
       split
       · exact ⟨fun h=>absurd h (show ¬ (3:Int)=0 by decide),hk,N0,C3,K0,S0⟩
       · refine tl 16 (i+2) true hk (Or.inl ?_);have:=nEnd_bd (s:=s) (b:=16) hk; omega
     · refine tl 10 i false (by omega) (Or.inl ?_);have hv:0≤valB 10 (pk s i):=by unfold valB; rw [if_pos hD]; have:=(digB_iff _).1 hD; omega
       unfold nEnd digM;split
       · show i < i+1+_; omega
       · have:=digs_gt (s:=s) (b:=10) (n:=0) (ok:=true) hi hv ⟨by decide,by decide⟩; omega
   · split
     · have hb:=fun k=>pk_bd s k
       have h4:∀ k,pk s k=39→k < s.size:=fun k h=>pk_in (by rw [h]; decide)
       have c2:=hb (i+2);have c1:=hb (i+1);refine ⟨fun h=>?_,?_,?_,?_,?_,S0⟩
       · show i < i+(chM s i).2.1;have h':(chM s i).1=0:=h;unfold chM at h' ⊢;revert h'
         (repeat' split) <;> intro h' <;> first | (show i < i+4; omega) | (show i < i+3; omega) | exact absurd h' (show ¬ (3:Int)=0 by decide)
       · show i+(chM s i).2.1≤s.size;unfold chM
         (repeat' split) <;> first | (have:=h4 (i+3) (by assumption); show i+4≤s.size; omega) | (have:=h4 (i+2) (by assumption); show i+3≤s.size; omega) | (show i+0≤s.size; omega)
       · show 0≤(chM s i).2.2∧_≤(18446744073709551615:Int);unfold chM
         (repeat' split) <;> first | exact N0 | exact (show (0:Int)≤10∧(10:Int)≤18446744073709551615 by decide) | (show 0≤pk s (i+2)∧pk s (i+2)≤18446744073709551615; omega) | (show 0≤pk s (i+1)∧pk s (i+1)≤18446744073709551615; omega)
       · show 0≤(chM s i).1∧_≤(6:Int);unfold chM; (repeat' split) <;> first | exact C0 | exact C3
       · show 0≤chK s i∧chK s i≤5;unfold chK; split <;> first | exact K0 | exact K4
     · split
       · exact ⟨fun h=>absurd h (show ¬ (3:Int)=0 by decide),by show i≤_; omega,N0,C3,K0,S0⟩
       · next hn =>
         refine ⟨fun _=>by show i < i+_; omega,?_,N0,C0,K5,S0⟩;show i+signM (pk s i) (pk s (i+1)) (pk s (i+2))≤s.size;have g1:1 < signM (pk s i) (pk s (i+1)) (pk s (i+2))→pk s (i+1)≠0:=by
          unfold signM; intro h e; rw [e] at h; revert h
          (repeat' split) <;> intro h <;> omega
         have g2:2 < signM (pk s i) (pk s (i+1)) (pk s (i+2))→pk s (i+2)≠0:=by
          unfold signM; intro h e; rw [e] at h; revert h
          (repeat' split) <;> intro h <;> omega
         have h3:=signM_le (pk s i) (pk s (i+1)) (pk s (i+2));by_cases h1:1 < signM (pk s i) (pk s (i+1)) (pk s (i+2))
         · have:=pk_in (g1 h1);by_cases h2:2 < signM (pk s i) (pk s (i+1)) (pk s (i+2))
           · have:=pk_in (g2 h2); omega
           · omega
         · omega
end Go.Proofs.YtjgkacggjhobmaaGreatDoor.Lx
namespace Go.Proofs.YtjgkacggjhobmaaGreatDoor
open Go.RowKit Go.Maps
instance:LawfulBEq ByteArray where
 eq_of_beq {a b} h:=by
  obtain ⟨a⟩:=a;obtain ⟨b⟩:=b;have h2:(a==b)=true:=h;rw [eq_of_beq h2]
 rfl {a}:=by
  obtain ⟨a⟩:=a;have h2:(a==a)=true:=beq_self_eq_true a;exact h2
def I64 (x:Int):Prop:=-9223372036854775808≤x∧x≤9223372036854775807
theorem I64.wf {x:Int} (h:I64 x):(Lit.int .i64 x).wf=true:=by
 have h1:IntKind.i64.min=-9223372036854775808:=rfl;have h2:IntKind.i64.max=9223372036854775807:=rfl;simp [Lit.wf];unfold I64 at h; omega
theorem int_inv (v:Value) (x:Int) (ps:List MemPlace) (h:plainElem Tryz.prog 3 v=some (DataW.lit (H:=Unit) (.int .i64 x),ps)):v=.int .i64 x:=by
 obtain ⟨a,rfl,hz,hw⟩:=plainElem_int_inv Tryz.underlying3 h;have e:DataW.lit (.int .i64 x)=DataW.lit (H:=Unit) (.int .i64 a):=congrArg Prod.fst hz;rw [(Lit.int.inj (DataW.lit.inj e)).2]
noncomputable def mapSI:ML Tryz.prog ByteArray Int where
 tm:=86
 tk:=9
 te:=3
 keyed:=string_keyed Tryz.underlying9
 und:=Tryz.underlying86
 kv k:=.string k
 kl k:=.string k.data.toList
 kok k:=k.size≤maxLen
 hkey k hk:=WideMaps.keyOf_string_mk Tryz.underlying9 hk
 kvinj a b h:=by injection h
 R:=plainElem Tryz.prog 3
 ev x:=.int .i64 x
 ed x:=.lit (.int .i64 x)
 eok:=I64
 hR x hx:=plainElem_int Tryz.underlying3 hx.wf
 hinv:=int_inv
 z:=0
 zok:=by unfold I64; omega
 hz w:=by kernel_rfl
structure Names (w:World) (b:Nat) (l:List ByteArray):Prop where
 ex:∃ al:List (ByteArray × Int),MapK mapSI w b al∧al.length≤l.length∧(∀ k:ByteArray,kget al k=if l.contains k then some 1 else none)
theorem Names.look {w:World} {b:Nat} {l:List ByteArray} (h:Names w b l) {k:ByteArray} (hk:k.size≤maxLen) :
    (Instr.lookup 86 (.map (some b)) (.string k) false).run Tryz.prog w=.ok (.int .i64 (if l.contains k then 1 else 0)) w:=by
 obtain ⟨al,h1,h2,h3⟩:=h.ex;have h4:=MapK.look h1 (M:=mapSI) hk;rw [h3 k] at h4;by_cases e:l.contains k=true
 · rw [if_pos e] at h4 ⊢; exact h4
 · rw [if_neg e] at h4 ⊢; exact h4
theorem Names.block {w w':World} {b:Nat} {l:List ByteArray} (h:Names w b l) (hb:w'.heap[b]?=w.heap[b]?):Names w' b l:=by
 obtain ⟨al,h1,h2⟩:=h.ex;exact ⟨al,h1.block hb,h2⟩
theorem Names.lt {w:World} {b:Nat} {l:List ByteArray} (h:Names w b l):b < w.heap.size:=by
 obtain ⟨al,h1,h2⟩:=h.ex;exact h1.lt
theorem Names.made (w:World):Names (w.alloc (.map #[] 0)) w.heap.size []:=⟨[],MapK.made w,Nat.le_refl _,fun k=>rfl⟩
theorem Names.put {w:World} {b:Nat} {l:List ByteArray} (h:Names w b l) (hl:l.length < maxLen) {k:ByteArray} (hk:k.size≤maxLen) :
    ∃ w',(Instr.mapUpdate 86 (.map (some b)) (.string k) (.int .i64 1)).run Tryz.prog w=.ok () w'∧Names w' b (k::l)∧w.mapTurned w' b:=by
 obtain ⟨al,h1,h2,h3⟩:=h.ex;obtain ⟨w',g1,g2,g3⟩:=MapK.put h1 (M:=mapSI) (by omega) (k:=k) (y:=1) hk (by show I64 1; unfold I64; omega);refine ⟨w',g1,⟨kput al k 1,g2,by have:=kput_le al k 1; rw [List.length_cons]; omega,fun q=>?_⟩,g3⟩;by_cases e:q=k
 · subst e; rw [kget_put_same,List.contains_cons]; simp
 · rw [kget_put_other _ _ e,h3 q,List.contains_cons];have:(q==k)=false:=beq_eq_false_iff_ne.2 e;rw [this,Bool.false_or]
end Go.Proofs.YtjgkacggjhobmaaGreatDoor
namespace Go.Proofs.YtjgkacggjhobmaaGreatDoor.Sy
open Go.RowKit Lx
structure Cx where
 T:List Tk
 en:Nat
structure St where
 at_:Nat
 types:List ByteArray
 code:Int
 wat:Int
structure Ty where
 base:ByteArray
 stars:Int
structure Vr where
 name:ByteArray
 ty:Ty
 arr:Bool
 num:Int
inductive Ex where
 | mk (kind:Int) (op name:ByteArray) (ty:Ty) (num:Int) (arr:Bool) (subs:List Ex)
inductive Sm where
 | mk (kind:Int) (v:Vr) (name:ByteArray) (minus:Bool) (num:Int) (e0 e1 e2:Option Ex) (body:List Sm)
structure It where
 kind:Int
 at_:Int
 v:Vr
 vars:List Vr
 types:List Ty
 body:Option Sm
 init:Option Ex
 list:List Ex
 listed:Bool
def nt:ByteArray:=⟨#[]⟩
def ty0:Ty:=⟨nt,0⟩
def vr0:Vr:=⟨nt,ty0,false,0⟩
def ex0:Ex:=.mk 0 nt nt ty0 0 false []
def sm0:Sm:=.mk 0 vr0 nt false 0 none none none []
variable (C:Cx)
def peekM (σ:St) (k:Nat):Tk:=C.T.getD (σ.at_+k) ⟨0,C.en,nt,nt,0,false⟩
def txt (σ:St):ByteArray:=(peekM C σ 0).text
def nextM (σ:St):St:=if σ.at_ < C.T.length then { σ with at_:=σ.at_+1 } else σ
def failM (σ:St) (code at_:Int):St:=⟨C.T.length,σ.types,if σ.code=0 then code else σ.code,if σ.code=0 then at_ else σ.wat⟩
def lostM (σ:St):St:=failM C σ 4 ((peekM C σ 0).at_:Int)
def isM (σ:St) (t:ByteArray):Bool:=txt C σ==t
def goM (σ:St) (t:ByteArray):St:=if isM C σ t then nextM C σ else σ
def wantM (σ:St) (t:ByteArray):St:=if isM C σ t then nextM C σ else lostM C σ
def nameM (σ:St):ByteArray × St:=if (peekM C σ 0).kind=1 then (txt C σ,nextM C σ) else (nt,lostM C σ)
def typeWord (t:ByteArray):Bool :=
 t==⟨#[118,111,105,100]⟩ || t==⟨#[99,104,97,114]⟩ || t==⟨#[115,104,111,114,116]⟩ || t==⟨#[105,110,116]⟩ || t==⟨#[108,111,110,103]⟩ || t==⟨#[117,110,115,105,103,110,101,100]⟩ || t==⟨#[115,116,114,117,99,116]⟩
def typedM (σ:St):Bool:=typeWord (txt C σ) || (((peekM C σ 0).kind==1)&&σ.types.contains (txt C σ))
def bitsM (t:ByteArray):ByteArray :=
 if t==⟨#[99,104,97,114]⟩ then ⟨#[56]⟩ else if t==⟨#[115,104,111,114,116]⟩ then ⟨#[49,54]⟩ else if t==⟨#[105,110,116]⟩ then ⟨#[51,50]⟩ else if t==⟨#[108,111,110,103]⟩ then ⟨#[54,52]⟩ else nt
def baseM (σ:St):ByteArray × St :=
 let k:=txt C σ
 let σ1:=nextM C σ
 if k==⟨#[118,111,105,100]⟩ then (⟨#[118,111,105,100]⟩,σ1)
 else if k==⟨#[115,116,114,117,99,116]⟩ then (⟨#[83,46]⟩++(nameM C σ1).1,(nameM C σ1).2)
 else if k==⟨#[117,110,115,105,103,110,101,100]⟩ then
  (if bitsM (txt C σ1)==nt then (⟨#[117,51,50]⟩,σ1) else (⟨#[117]⟩++bitsM (txt C σ1),nextM C σ1))
 else if bitsM k==nt then (⟨#[84,46]⟩++k,σ1) else (⟨#[105]⟩++bitsM k,σ1)
def starsM:Nat→St→Int→Int × St
 | 0,σ,n=>(n,σ)
 | f+1,σ,n=>if isM C σ ⟨#[42]⟩ then starsM f (nextM C σ) (n+1) else (n,σ)
def typM (σ:St):Ty × St :=
 if typedM C σ then (⟨(baseM C σ).1,(starsM C C.T.length (baseM C σ).2 0).1⟩,(starsM C C.T.length (baseM C σ).2 0).2) else (ty0,lostM C σ)
def numberM (σ:St):Bool × Int × St :=
 if isM C σ ⟨#[91]⟩ then
  let σ1:=nextM C σ
  if (peekM C σ1 0).kind=3∧(peekM C σ1 0).suf==nt then (true,(peekM C σ1 0).num,wantM C (nextM C σ1) ⟨#[93]⟩) else (false,0,lostM C σ1)
 else (false,0,σ)
def mayHave (k:Tk) (i:Nat):Bool :=
 if k.suf==⟨#[117]⟩ then (i==1 || i==3) else if k.suf==⟨#[108]⟩ then (i==2 || (k.hex&&i==3)) else if k.suf==⟨#[117,108]⟩ then i==3 else (k.hex || (i==0 || i==2))
def numType (k:Tk):Option ByteArray :=
 if k.num≤2147483647∧mayHave k 0 then some ⟨#[105,51,50]⟩
 else if k.num≤4294967295∧mayHave k 1 then some ⟨#[117,51,50]⟩
 else if k.num≤9223372036854775807∧mayHave k 2 then some ⟨#[105,54,52]⟩
 else if k.num≤18446744073709551615∧mayHave k 3 then some ⟨#[117,54,52]⟩
 else none
def numberTypeM (σ:St) (k:Tk):Ty × St:=match numType k with
 | some t=>(⟨t,0⟩,σ)
 | none=>(ty0,failM C σ 6 (k.at_:Int))
def levelM (op:ByteArray):Int :=
 if op==⟨#[124,124]⟩ then 1 else if op==⟨#[38,38]⟩ then 2 else if op==⟨#[124]⟩ then 3 else if op==⟨#[94]⟩ then 4 else if op==⟨#[38]⟩ then 5
 else if op==⟨#[61,61]⟩ || op==⟨#[33,61]⟩ then 6 else if op==⟨#[60]⟩ || op==⟨#[60,61]⟩ || op==⟨#[62]⟩ || op==⟨#[62,61]⟩ then 7
 else if op==⟨#[60,60]⟩ || op==⟨#[62,62]⟩ then 8 else if op==⟨#[43]⟩ || op==⟨#[45]⟩ then 9 else if op==⟨#[42]⟩ || op==⟨#[47]⟩ || op==⟨#[37]⟩ then 10 else 0
def assigns (op:ByteArray):Bool :=
 op==⟨#[61]⟩ || op==⟨#[43,61]⟩ || op==⟨#[45,61]⟩ || op==⟨#[42,61]⟩ || op==⟨#[47,61]⟩ || op==⟨#[37,61]⟩ || op==⟨#[38,61]⟩ || op==⟨#[124,61]⟩ || op==⟨#[94,61]⟩ || op==⟨#[60,60,61]⟩ || op==⟨#[62,62,61]⟩
def unOps (op:ByteArray):Bool:=op==⟨#[45]⟩ || op==⟨#[126]⟩ || op==⟨#[33]⟩ || op==⟨#[38]⟩ || op==⟨#[42]⟩
def binEx (op:ByteArray) (l r:Ex):Ex:=if op==⟨#[38,38]⟩ then .mk 5 nt nt ty0 0 false [l,r] else if op==⟨#[124,124]⟩ then .mk 6 nt nt ty0 0 false [l,r] else .mk 4 op nt ty0 0 false [l,r]
def primeM (σ:St):Ex × St :=
 let k:=peekM C σ 0
 if k.kind=3 then (.mk 1 nt nt (numberTypeM C σ k).1 k.num false [],nextM C (numberTypeM C σ k).2)
 else if k.kind=4 then (.mk 1 nt nt ⟨⟨#[105,51,50]⟩,0⟩ k.num false [],nextM C σ)
 else if k.kind=1 then (.mk 2 nt k.text ty0 0 false [],nextM C σ)
 else (ex0,nextM C (lostM C σ))
def sizeM (σ:St):Ex × St :=
 let t:=typM C (wantM C (nextM C σ) ⟨#[40]⟩)
 let n:=numberM C t.2
 (.mk 14 nt nt t.1 n.2.1 n.1 [],wantM C n.2.2 ⟨#[41]⟩)
def Ex.subs:Ex→List Ex | .mk _ _ _ _ _ _ s=>s
inductive Job where
 | expr | cond | bin (least:Int) | binL (least:Int) (left:Ex) | unary | post (e:Ex) | args (e:Ex)
def E:Nat→Job→St→Ex × St
 | 0,_,σ=>(ex0,σ)
 | f+1,.expr,σ =>
   let a:=E f .cond σ
   if assigns (txt C a.2) then (let b:=E f .expr (nextM C a.2); (.mk 8 (txt C a.2) nt ty0 0 false [a.1,b.1],b.2)) else a
 | f+1,.cond,σ =>
   let a:=E f (.bin 1) σ
   if isM C a.2 ⟨#[63]⟩ then
    (let b:=E f .expr (nextM C a.2)
     let c:=E f .cond (wantM C b.2 ⟨#[58]⟩)
     (.mk 7 nt nt ty0 0 false [a.1,b.1,c.1],c.2))
   else a
 | f+1,.bin least,σ=>let a:=E f .unary σ; E f (.binL least a.1) a.2
 | f+1,.binL least left,σ =>
   if levelM (txt C σ) < least then (left,σ)
   else (let r:=E f (.bin (levelM (txt C σ)+1)) (nextM C σ); E f (.binL least (binEx (txt C σ) left r.1)) r.2)
 | f+1,.unary,σ =>
   if unOps (txt C σ) then (let a:=E f .unary (nextM C σ); (.mk 3 (txt C σ) nt ty0 0 false [a.1],a.2))
   else if isM C σ ⟨#[115,105,122,101,111,102]⟩ then sizeM C σ
   else if isM C σ ⟨#[40]⟩ then
    (if typedM C (nextM C σ) then
     (let t:=typM C (nextM C σ)
      let a:=E f .unary (wantM C t.2 ⟨#[41]⟩)
      (.mk 13 nt nt t.1 0 false [a.1],a.2))
     else (let a:=E f .expr (nextM C σ); E f (.post a.1) (wantM C a.2 ⟨#[41]⟩)))
   else (let a:=primeM C σ; E f (.post a.1) a.2)
 | f+1,.post e,σ =>
   if isM C σ ⟨#[91]⟩ then (let a:=E f .expr (nextM C σ); E f (.post (.mk 9 nt nt ty0 0 false [e,a.1])) (wantM C a.2 ⟨#[93]⟩))
   else if isM C σ ⟨#[46]⟩ then (let n:=nameM C (nextM C σ); E f (.post (.mk 10 nt n.1 ty0 0 false [e])) n.2)
   else if isM C σ ⟨#[45,62]⟩ then (let n:=nameM C (nextM C σ); E f (.post (.mk 11 nt n.1 ty0 0 false [e])) n.2)
   else if isM C σ ⟨#[40]⟩ then
    (if isM C (nextM C σ) ⟨#[41]⟩ then E f (.post (.mk 12 nt nt ty0 0 false [e])) (nextM C (nextM C σ))
     else
      (let a:=E f .expr (nextM C σ)
       let b:=E f (.args (.mk 12 nt nt ty0 0 false [e,a.1])) a.2
       E f (.post b.1) (wantM C b.2 ⟨#[41]⟩)))
   else (e,σ)
 | f+1,.args e,σ =>
   if isM C σ ⟨#[44]⟩ then (let a:=E f .expr (nextM C σ); E f (.args (.mk 12 nt nt ty0 0 false (e.subs++[a.1]))) a.2) else (e,σ)
def fuel (σ:St):Nat:=10 * (C.T.length - σ.at_)+8
def exprM (σ:St):Ex × St:=E C (fuel C σ) .expr σ
def condM (σ:St):Ex × St:=E C (fuel C σ) .cond σ
end Go.Proofs.YtjgkacggjhobmaaGreatDoor.Sy
namespace Go.Proofs.YtjgkacggjhobmaaGreatDoor.Sy
open Go.RowKit Lx
variable (C:Cx)
def askedM (σ:St):Ex × St:=let a:=exprM C (wantM C σ ⟨#[40]⟩); (a.1,wantM C a.2 ⟨#[41]⟩)
def letM (σ:St):Sm × St :=
 let t:=typM C σ
 let n:=nameM C t.2
 let k:=numberM C n.2
 let e:=if isM C k.2.2 ⟨#[61]⟩ then (let a:=exprM C (nextM C k.2.2); (some a.1,a.2)) else (none,k.2.2)
 (.mk 3 ⟨n.1,t.1,k.1,k.2.1⟩ nt false 0 e.1 none none [],wantM C e.2 ⟨#[59]⟩)
def labelledM (σ:St):Sm × St :=
 let σ1:=nextM C σ
 let m:=isM C σ1 ⟨#[45]⟩
 let σ2:=goM C σ1 ⟨#[45]⟩
 let k:=peekM C σ2 0
 let σ3:=if k.kind=3 then (numberTypeM C σ2 k).2 else if k.kind=4 then σ2 else lostM C σ2
 (.mk 9 vr0 nt m k.num none none none [],wantM C (nextM C σ3) ⟨#[58]⟩)
def partM (σ:St) (stop:ByteArray):Option Ex × St :=
 let e:=if isM C σ stop then (none,σ) else (let a:=exprM C σ; (some a.1,a.2))
 (e.1,wantM C e.2 stop)
inductive Sj where
 | stmt | block | blockL (acc:List Sm) | choiceL (e:Option Ex) (acc:List Sm)
def S:Nat→Sj→St→Sm × St
 | 0,_,σ=>(sm0,σ)
 | f+1,.block,σ=>S f (.blockL []) (wantM C σ ⟨#[123]⟩)
 | f+1,.blockL acc,σ =>
   if isM C σ ⟨#[125]⟩ then (.mk 1 vr0 nt false 0 none none none acc,nextM C σ)
   else if σ.at_=C.T.length then (.mk 1 vr0 nt false 0 none none none acc,lostM C σ)
   else (let a:=S f .stmt σ; S f (.blockL (acc++[a.1])) a.2)
 | f+1,.choiceL e acc,σ =>
   if isM C σ ⟨#[125]⟩ then (.mk 8 vr0 nt false 0 e none none acc,nextM C σ)
   else if σ.at_=C.T.length then (.mk 8 vr0 nt false 0 e none none acc,lostM C σ)
   else if isM C σ ⟨#[99,97,115,101]⟩ then (let a:=labelledM C σ; S f (.choiceL e (acc++[a.1])) a.2)
   else if isM C σ ⟨#[100,101,102,97,117,108,116]⟩ then S f (.choiceL e (acc++[.mk 10 vr0 nt false 0 none none none []])) (wantM C (nextM C σ) ⟨#[58]⟩)
   else (let a:=S f .stmt σ; S f (.choiceL e (acc++[a.1])) a.2)
 | f+1,.stmt,σ =>
   if isM C σ ⟨#[123]⟩ then S f .block σ
   else if isM C σ ⟨#[59]⟩ then (.mk 2 vr0 nt false 0 none none none [],nextM C σ)
   else if typedM C σ then letM C σ
   else if (peekM C σ 0).kind=1∧(peekM C σ 1).text==⟨#[58]⟩ then (let a:=S f .stmt (nextM C (nextM C σ)); (.mk 15 vr0 (txt C σ) false 0 none none none [a.1],a.2))
   else if (peekM C σ 0).kind=2∧¬ isM C σ ⟨#[115,105,122,101,111,102]⟩ then
    (if isM C σ ⟨#[105,102]⟩ then
     (let c:=askedM C (nextM C σ)
      let a:=S f .stmt c.2
      if isM C a.2 ⟨#[101,108,115,101]⟩ then (let b:=S f .stmt (nextM C a.2); (.mk 4 vr0 nt false 0 (some c.1) none none [a.1,b.1],b.2))
      else (.mk 4 vr0 nt false 0 (some c.1) none none [a.1],a.2))
     else if isM C σ ⟨#[119,104,105,108,101]⟩ then
      (let c:=askedM C (nextM C σ)
       let a:=S f .stmt c.2
       (.mk 5 vr0 nt false 0 (some c.1) none none [a.1],a.2))
     else if isM C σ ⟨#[100,111]⟩ then
      (let a:=S f .stmt (nextM C σ)
       let c:=askedM C (wantM C a.2 ⟨#[119,104,105,108,101]⟩)
       (.mk 6 vr0 nt false 0 (some c.1) none none [a.1],wantM C c.2 ⟨#[59]⟩))
     else if isM C σ ⟨#[102,111,114]⟩ then
      (let p:=partM C (wantM C (nextM C σ) ⟨#[40]⟩) ⟨#[59]⟩
       let q:=partM C p.2 ⟨#[59]⟩
       let r:=partM C q.2 ⟨#[41]⟩
       let a:=S f .stmt r.2
       (.mk 7 vr0 nt false 0 p.1 q.1 r.1 [a.1],a.2))
     else if isM C σ ⟨#[115,119,105,116,99,104]⟩ then
      (let c:=askedM C (nextM C σ)
       S f (.choiceL (some c.1) []) (wantM C c.2 ⟨#[123]⟩))
     else if isM C σ ⟨#[98,114,101,97,107]⟩ then (.mk 11 vr0 nt false 0 none none none [],wantM C (nextM C σ) ⟨#[59]⟩)
     else if isM C σ ⟨#[99,111,110,116,105,110,117,101]⟩ then (.mk 12 vr0 nt false 0 none none none [],wantM C (nextM C σ) ⟨#[59]⟩)
     else if isM C σ ⟨#[114,101,116,117,114,110]⟩ then
      (let p:=partM C (nextM C σ) ⟨#[59]⟩
       (.mk 13 vr0 nt false 0 p.1 none none [],p.2))
     else if isM C σ ⟨#[103,111,116,111]⟩ then
      (let n:=nameM C (nextM C σ)
       (.mk 14 vr0 n.1 false 0 none none none [],wantM C n.2 ⟨#[59]⟩))
     else (sm0,lostM C σ))
   else (let a:=exprM C σ; (.mk 16 vr0 nt false 0 (some a.1) none none [],wantM C a.2 ⟨#[59]⟩))
def blockM (σ:St):Sm × St:=S C (10 * (C.T.length - σ.at_)+8) .block σ
def paramM (σ:St):Vr × St:=let t:=typM C σ; let n:=nameM C t.2; (⟨n.1,t.1,false,0⟩,n.2)
def paramsM:Nat→St→List Vr→List Vr × St
 | 0,σ,acc=>(acc,σ)
 | f+1,σ,acc=>if isM C σ ⟨#[44]⟩ then (let a:=paramM C (nextM C σ); paramsM f a.2 (acc++[a.1])) else (acc,σ)
def typesM:Nat→St→List Ty→List Ty × St
 | 0,σ,acc=>(acc,σ)
 | f+1,σ,acc=>if isM C σ ⟨#[44]⟩ then (let a:=typM C (nextM C σ); typesM f a.2 (acc++[a.1])) else (acc,σ)
def condsM:Nat→St→List Ex→List Ex × St
 | 0,σ,acc=>(acc,σ)
 | f+1,σ,acc=>if isM C σ ⟨#[44]⟩ then (let a:=condM C (nextM C σ); condsM f a.2 (acc++[a.1])) else (acc,σ)
def fieldM (σ:St):Vr × St :=
 let t:=typM C σ
 let n:=nameM C t.2
 let k:=numberM C n.2
 (⟨n.1,t.1,k.1,k.2.1⟩,wantM C k.2.2 ⟨#[59]⟩)
def fieldsM:Nat→St→List Vr→List Vr × St
 | 0,σ,acc=>(acc,σ)
 | f+1,σ,acc =>
   let a:=fieldM C σ
   if isM C a.2 ⟨#[125]⟩ then (acc++[a.1],wantM C (nextM C a.2) ⟨#[59]⟩)
   else if typedM C a.2 then fieldsM f a.2 (acc++[a.1]) else (acc++[a.1],lostM C a.2)
def it0 (at_:Int):It:=⟨0,at_,vr0,[],[],none,none,[],false⟩
def structM (i:It) (σ:St):It × St :=
 let n:=nameM C (nextM C σ)
 let k:=fieldsM C (C.T.length+1) (wantM C n.2 ⟨#[123]⟩) []
 ({ i with kind:=1,v:={ i.v with name:=n.1 },vars:=k.1 },k.2)
def typedefM (i:It) (σ:St):It × St :=
 let t:=typM C (nextM C σ)
 let n:=nameM C t.2
 let σ1:=wantM C n.2 ⟨#[40]⟩
 let k:=if isM C σ1 ⟨#[41]⟩ then ([],nextM C σ1) else (let a:=typM C σ1; let b:=typesM C C.T.length a.2 [a.1]; (b.1,wantM C b.2 ⟨#[41]⟩))
 let σ2:=wantM C k.2 ⟨#[59]⟩
 ({ i with kind:=2,v:={ i.v with ty:=t.1,name:=n.1 },types:=k.1 },{ σ2 with types:=n.1::σ2.types })
def functionM (i:It) (σ:St):It × St :=
 let σ1:=nextM C σ
 let k:=if isM C σ1 ⟨#[41]⟩ then ([],nextM C σ1) else (let a:=paramM C σ1; let b:=paramsM C C.T.length a.2 [a.1]; (b.1,wantM C b.2 ⟨#[41]⟩))
 if isM C k.2 ⟨#[59]⟩ then ({ i with kind:=3,vars:=k.1 },nextM C k.2)
 else if isM C k.2 ⟨#[123]⟩ then (let b:=blockM C k.2; ({ i with kind:=4,vars:=k.1,body:=some b.1 },b.2))
 else ({ i with kind:=4,vars:=k.1 },lostM C k.2)
def initialM (i:It) (σ:St):It × St :=
 if isM C σ ⟨#[123]⟩ then
  (let a:=condM C (nextM C σ)
   let b:=condsM C C.T.length a.2 [a.1]
   ({ i with listed:=true,list:=b.1 },wantM C b.2 ⟨#[125]⟩))
 else (let a:=condM C σ; ({ i with init:=some a.1 },a.2))
def declarationM (i:It) (σ:St):It × St :=
 let t:=typM C σ
 let n:=nameM C t.2
 if isM C n.2 ⟨#[40]⟩ then functionM C { i with v:={ i.v with ty:=t.1,name:=n.1 } } n.2
 else
  (let k:=numberM C n.2
   let i1:It:={ i with kind:=5,v:=⟨n.1,t.1,k.1,k.2.1⟩ }
   let r:=if isM C k.2.2 ⟨#[61]⟩ then initialM C i1 (nextM C k.2.2) else (i1,k.2.2)
   (r.1,wantM C r.2 ⟨#[59]⟩))
def itemM (σ:St):It × St :=
 let i:=it0 ((peekM C σ 0).at_:Int)
 if isM C σ ⟨#[115,116,114,117,99,116]⟩&&((peekM C σ 1).kind==1&&(peekM C σ 2).text==⟨#[123]⟩) then structM C i σ
 else if isM C σ ⟨#[116,121,112,101,100,101,102]⟩ then typedefM C i σ
 else declarationM C i σ
def itemsM:Nat→St→List It→List It × St
 | 0,σ,acc=>(acc,σ)
 | f+1,σ,acc=>if σ.at_ < C.T.length then (let a:=itemM C σ; itemsM f a.2 (acc++[a.1])) else (acc,σ)
end Go.Proofs.YtjgkacggjhobmaaGreatDoor.Sy
namespace Go.Proofs.YtjgkacggjhobmaaGreatDoor.Sy
open Go.RowKit Lx
structure Wr where
 out:ByteArray
 depth:Int
 most:Int
 fresh:Bool
def decL:Nat→Nat→List UInt8→List UInt8
 | 0,_,acc=>acc
 | f+1,n,acc=>if n < 10 then UInt8.ofNat (48+n)::acc else decL f (n / 10) (UInt8.ofNat (48+n % 10)::acc)
def decM (n:Int):ByteArray:=⟨(decL 20 n.toNat []).toArray⟩
def starL:Nat→ByteArray
 | 0=>nt
 | n+1=>starL n++⟨#[42]⟩
def tyM (t:Ty):ByteArray:=t.base++starL t.stars.toNat
def partW (s:ByteArray) (w:Wr):Wr:={ w with out:=(if w.fresh then w.out else w.out++⟨#[32]⟩)++s,fresh:=false }
def openW (w:Wr):Wr:=let w1:=partW ⟨#[40]⟩ w; { w1 with fresh:=true,depth:=w1.depth+1,most:=max w1.most (w1.depth+1) }
def partsW (l:List ByteArray) (w:Wr):Wr:=l.foldl (fun w s=>partW s w) w
def openP (l:List ByteArray) (w:Wr):Wr:=partsW l (openW w)
def closeW (w:Wr):Wr:={ w with out:=w.out++⟨#[41]⟩,fresh:=false,depth:=w.depth - 1 }
def dash:ByteArray:=⟨#[45]⟩
def exHead (kind:Int) (op name:ByteArray) (ty:Ty) (num:Int):Option (List ByteArray) :=
 if kind=1 then some [⟨#[110,117,109]⟩,tyM ty,decM num]
 else if kind=2 then some [⟨#[110,97,109,101]⟩,name]
 else if kind=3 then some [⟨#[117,110]⟩,op]
 else if kind=4 then some [⟨#[98,105,110]⟩,op]
 else if kind=5 then some [⟨#[97,110,100]⟩]
 else if kind=6 then some [⟨#[111,114]⟩]
 else if kind=7 then some [⟨#[99,111,110,100]⟩]
 else if kind=8 then some [⟨#[115,101,116]⟩,op]
 else if kind=9 then some [⟨#[105,110,100,101,120]⟩]
 else if kind=10 then some [⟨#[100,111,116]⟩]
 else if kind=11 then some [⟨#[97,114,114,111,119]⟩]
 else if kind=12 then some [⟨#[99,97,108,108]⟩]
 else if kind=13 then some [⟨#[99,97,115,116]⟩,tyM ty]
 else if kind=14 then some [⟨#[115,105,122,101]⟩,tyM ty,decM num]
 else none
def headW (h:Option (List ByteArray)) (w:Wr):Wr:=match h with
 | some l=>openP l w
 | none=>w
mutual
def exW:Ex→Wr→Wr
 | .mk kind op name ty num arr subs,w =>
   let w1:=exsW subs (headW (exHead kind op name ty num) w)
   closeW (if kind=10∨kind=11 then partW name w1 else w1)
def exsW:List Ex→Wr→Wr
 | [],w=>w
 | e::t,w=>exsW t (exW e w)
end
def optW (e:Option Ex) (w:Wr):Wr:=match e with
 | some e=>exW e w
 | none=>partW dash w
def heads:List ByteArray:=[nt,⟨#[98,108,111,99,107]⟩,⟨#[115,107,105,112]⟩,⟨#[108,101,116]⟩,⟨#[105,102]⟩,⟨#[119,104,105,108,101]⟩,⟨#[100,111]⟩,⟨#[102,111,114]⟩,⟨#[115,119,105,116,99,104]⟩,⟨#[99,97,115,101]⟩,⟨#[100,101,102,97,117,108,116]⟩,⟨#[98,114,101,97,107]⟩,⟨#[99,111,110,116,105,110,117,101]⟩,⟨#[114,101,116,117,114,110]⟩,⟨#[103,111,116,111]⟩,⟨#[108,97,98,101,108]⟩,⟨#[101,120,112,114]⟩]
mutual
def smW:Sm→Wr→Wr
 | .mk kind v name minus num e0 e1 e2 body,w =>
   let w0:=openP [heads.getD kind.toNat nt] w
   closeW (
    if kind=1 then smsW body w0
    else if kind=3 then optW e0 (partW (decM v.num) (partW v.name (partW (tyM v.ty) w0)))
    else if kind=4 then (let w1:=smsW body (optW e0 w0); if body.length=1 then partW dash w1 else w1)
    else if kind=5∨kind=8 then smsW body (optW e0 w0)
    else if kind=6 then optW e0 (smsW body w0)
    else if kind=7 then smsW body (optW e2 (optW e1 (optW e0 w0)))
    else if kind=9 then (if minus=true∧num≠0 then partW (dash++decM num) w0 else partW (decM num) w0)
    else if kind=13∨kind=16 then optW e0 w0
    else if kind=14 then partW name w0
    else if kind=15 then smsW body (partW name w0)
    else w0)
def smsW:List Sm→Wr→Wr
 | [],w=>w
 | s::t,w=>smsW t (smW s w)
end
def paramsW (l:List Vr) (w:Wr):Wr:=closeW (l.foldl (fun w v=>closeW (openP [tyM v.ty,v.name] w)) (openP [] w))
def itW (i:It) (w:Wr):Wr :=
 closeW (
  if i.kind=1 then i.vars.foldl (fun w v=>closeW (openP [tyM v.ty,v.name,decM v.num] w)) (openP [⟨#[115,116,114,117,99,116]⟩,i.v.name] w)
  else if i.kind=2 then closeW (i.types.foldl (fun w t=>partW (tyM t) w) (openP [] (openP [⟨#[116,121,112,101,100,101,102]⟩,tyM i.v.ty,i.v.name] w)))
  else if i.kind=3 then paramsW i.vars (openP [⟨#[112,114,111,116,111]⟩,tyM i.v.ty,i.v.name] w)
  else if i.kind=4 then (match i.body with | some b=>smW b (paramsW i.vars (openP [⟨#[102,117,110,99]⟩,tyM i.v.ty,i.v.name] w)) | none=>w)
  else if i.kind=5 then
   (let w1:=openP [⟨#[118,97,114]⟩,tyM i.v.ty,i.v.name,decM i.v.num] w
    if i.listed then closeW (exsW i.list (openP [⟨#[108,105,115,116]⟩] w1)) else optW i.init w1)
  else w)
def depthM (l:List It):Int:=(l.foldl (fun w i=>{ itW i w with out:=nt,fresh:=true }) (⟨nt,0,0,true⟩:Wr)).most
def dumpL (l:List It):ByteArray:=(l.foldl (fun w i=>(let w1:=itW i w; { w1 with out:=w1.out++⟨#[10]⟩,fresh:=true })) (⟨nt,0,0,true⟩:Wr)).out
structure PR where
 items:List It
 code:Int
 at_:Int
def parseM (s:ByteArray):PR :=
 let t:=tokensM s
 if t.code≠0 then ⟨[],t.code,t.pos⟩
 else
  let C:Cx:=⟨t.l,s.size⟩
  let r:=itemsM C (t.l.length+1) ⟨0,[],0,0⟩ []
  if r.2.code≠0 then ⟨[],r.2.code,r.2.wat⟩
  else if depthM r.1 > 40 then ⟨[],5,0⟩
  else ⟨r.1,0,0⟩
def dumpM (s:ByteArray):ByteArray × Int × Int :=
 let r:=parseM s
 if r.code≠0 then (nt,r.code,r.at_) else (dumpL r.items,0,0)
end Go.Proofs.YtjgkacggjhobmaaGreatDoor.Sy
namespace Go.Proofs.YtjgkacggjhobmaaGreatDoor.Sy
open Go.RowKit Lx
variable {C:Cx}
structure Mo (C:Cx) (σ τ:St):Prop where
 at_:σ.at_≤τ.at_
 le:τ.at_≤C.T.length
 code:τ.code=0→σ.code=0
 ty:τ.types=σ.types
theorem Mo.refl {σ:St} (h:σ.at_≤C.T.length):Mo C σ σ:=⟨Nat.le_refl _,h,id,rfl⟩
theorem Mo.trans {σ τ υ:St} (h:Mo C σ τ) (g:Mo C τ υ):Mo C σ υ:=⟨Nat.le_trans h.at_ g.at_,g.le,fun e=>h.code (g.code e),g.ty.trans h.ty⟩
theorem Mo.next {σ τ:St} (h:Mo C σ τ):Mo C σ (nextM C τ):=by
 unfold nextM;split
 · next hl=>exact ⟨Nat.le_succ_of_le h.at_,hl,h.code,h.ty⟩
 · exact h
theorem Mo.fail {σ τ:St} (h:Mo C σ τ) {c a:Int} (hc:c≠0):Mo C σ (failM C τ c a) :=
 ⟨Nat.le_trans h.at_ h.le,Nat.le_refl _,fun e=>by
  have e':(if τ.code=0 then c else τ.code)=0:=e;split at e'
  · exact absurd e' hc
  · next hn=>exact absurd e' hn,h.ty⟩
theorem Mo.lost {σ τ:St} (h:Mo C σ τ):Mo C σ (lostM C τ):=h.fail (by decide)
theorem Mo.go {σ τ:St} (h:Mo C σ τ) (t:ByteArray):Mo C σ (goM C τ t):=by unfold goM; split; exact h.next; exact h
theorem Mo.want {σ τ:St} (h:Mo C σ τ) (t:ByteArray):Mo C σ (wantM C τ t):=by unfold wantM; split; exact h.next; exact h.lost
theorem Mo.name {σ τ:St} (h:Mo C σ τ):Mo C σ (nameM C τ).2:=by unfold nameM; split; exact h.next; exact h.lost
theorem Mo.base {σ τ:St} (h:Mo C σ τ):Mo C σ (baseM C τ).2:=by
 unfold baseM;simp only
 (repeat' split) <;> first | exact h.next | exact h.next.name | exact h.next.next
theorem Mo.stars {σ:St}:∀ (f:Nat) (τ:St) (n:Int),Mo C σ τ→Mo C σ (starsM C f τ n).2
 | 0,_,_,h=>h
 | f+1,τ,n,h=>by unfold starsM; split; exact Mo.stars f _ _ h.next; exact h
theorem Mo.typ {σ τ:St} (h:Mo C σ τ):Mo C σ (typM C τ).2:=by unfold typM; split; exact Mo.stars _ _ _ h.base; exact h.lost
theorem Mo.number {σ τ:St} (h:Mo C σ τ):Mo C σ (numberM C τ).2.2:=by
 unfold numberM;simp only
 (repeat' split) <;> first | exact (h.next.next).want _ | exact h.next.lost | exact h
theorem Mo.numberType {σ τ:St} (h:Mo C σ τ) (k:Tk):Mo C σ (numberTypeM C τ k).2:=by unfold numberTypeM; split; exact h; exact h.fail (by decide)
theorem Mo.prime {σ τ:St} (h:Mo C σ τ):Mo C σ (primeM C τ).2:=by
 unfold primeM;simp only
 (repeat' split) <;> first | exact (h.numberType _).next | exact h.next | exact h.lost.next
theorem Mo.size {σ τ:St} (h:Mo C σ τ):Mo C σ (sizeM C τ).2:=by
 unfold sizeM;exact ((((h.next).want _).typ).number).want _
theorem E_mo:∀ (f:Nat) (j:Job) (σ:St),σ.at_≤C.T.length→Mo C σ (E C f j σ).2
 | 0,j,σ,h=>by unfold E; exact Mo.refl h
 | f+1,j,σ,h=>by
   have r:=Mo.refl h;have ih:∀ {τ:St} (j:Job),Mo C σ τ→Mo C σ (E C f j τ).2:=fun j k=>k.trans (E_mo f j _ k.le)
   cases j with
   | expr=>unfold E; simp only; split; exact ih _ (ih _ r).next; exact ih _ r
   | cond=>unfold E; simp only; split; exact ih _ ((ih _ (ih _ r).next).want _); exact ih _ r
   | bin l=>unfold E; exact ih _ (ih _ r)
   | binL l x=>unfold E; split; exact r; exact ih _ (ih _ r.next)
   | unary =>
     unfold E; simp only
     (repeat' split) <;> first | with_reducible exact ih _ r.next | with_reducible exact r.size | with_reducible exact ih _ ((r.next.typ).want _) | with_reducible exact ih _ ((ih _ r.next).want _) | with_reducible exact ih _ r.prime
   | post x =>
     unfold E; simp only
     (repeat' split) <;> first | with_reducible exact ih _ ((ih _ r.next).want _) | with_reducible exact ih _ r.next.name | with_reducible exact ih _ r.next.next | with_reducible exact ih _ ((ih _ (ih _ r.next)).want _) | with_reducible exact r
   | args x=>unfold E; simp only; split; exact ih _ (ih _ r.next); exact r
theorem next_at {σ:St} (h:σ.at_ < C.T.length):(nextM C σ).at_=σ.at_+1:=by unfold nextM; rw [if_pos h]
theorem is_lt {σ:St} {t:ByteArray} (h:isM C σ t=true) (ht:(nt==t)=false):σ.at_ < C.T.length:=by
 apply Classical.byContradiction;intro hn;unfold isM txt peekM at h;rw [List.getD_eq_getElem?_getD,List.getElem?_eq_none (by omega)] at h;simp only [Option.getD_none] at h;rw [h] at ht; cases ht
def Go_ (C:Cx) (σ τ:St):Prop:=σ.at_ < τ.at_
theorem next_go {σ:St} (h:σ.at_ < C.T.length):σ.at_ < (nextM C σ).at_:=by rw [next_at h]; exact Nat.lt_succ_self _
theorem want_ge {σ τ:St} (h:σ.at_ < τ.at_) (hl:τ.at_≤C.T.length) (t:ByteArray):σ.at_ < (wantM C τ t).at_:=Nat.lt_of_lt_of_le h (Mo.want (Mo.refl hl) t).at_
theorem unary_go (f:Nat) (σ:St) (h:σ.at_ < C.T.length):σ.at_ < (E C (f+1) .unary σ).2.at_:=by
 have hn:=next_go h;have r:Mo C (nextM C σ) (nextM C σ):=Mo.refl ((Mo.refl (Nat.le_of_lt h)).next).le;have g:∀ {τ:St},Mo C (nextM C σ) τ→σ.at_ < τ.at_:=fun k=>Nat.lt_of_lt_of_le hn k.at_
 have ih:∀ {τ:St} (j:Job),Mo C (nextM C σ) τ→Mo C (nextM C σ) (E C f j τ).2:=fun j k=>k.trans (E_mo f j _ k.le)
 unfold E; simp only
 (repeat' split)
 · exact g (ih _ r)
 · unfold sizeM; exact g (((r.want _).typ).number.want _)
 · exact g (ih _ (r.typ.want _))
 · exact g (ih _ ((ih _ r).want _))
 · have hp:σ.at_ < (primeM C σ).2.at_:=by
    have hl:∀ τ:St,τ.at_≤C.T.length→σ.at_ < τ.at_→σ.at_ < (nextM C τ).at_:=fun τ k1 k2=>Nat.lt_of_lt_of_le k2 (Mo.refl k1).next.at_
    unfold primeM;simp only
    (repeat' split)
    · unfold numberTypeM;split
      · exact hn
      · exact hl _ (Nat.le_refl _) h
    · exact hn
    · exact hn
    · exact hl _ (Nat.le_refl _) h
   exact Nat.lt_of_lt_of_le hp (E_mo f _ _ (Mo.refl (Nat.le_of_lt h)).prime.le).at_
theorem bin_go (f:Nat) (l:Int) (σ:St) (h:σ.at_ < C.T.length):σ.at_ < (E C (f+2) (.bin l) σ).2.at_:=by
 have hu:=unary_go f σ h;unfold E;exact Nat.lt_of_lt_of_le hu (E_mo (f+1) _ _ (E_mo (f+1) _ _ (Nat.le_of_lt h)).le).at_
theorem cond_go (f:Nat) (σ:St) (h:σ.at_ < C.T.length):σ.at_ < (E C (f+3) .cond σ).2.at_:=by
 have hu:=bin_go f 1 σ h;have m:=E_mo (f+2) (.bin 1) σ (Nat.le_of_lt h);unfold E; simp only;split
 · exact Nat.lt_of_lt_of_le hu ((E_mo (f+2) .cond _ (((Mo.refl m.le).next.trans (E_mo (f+2) .expr _ (Mo.refl m.le).next.le)).want _).le).at_ |> Nat.le_trans (((Mo.refl m.le).next.trans (E_mo (f+2) .expr _ (Mo.refl m.le).next.le)).want _).at_)
 · exact hu
theorem expr_go (f:Nat) (σ:St) (h:σ.at_ < C.T.length):σ.at_ < (E C (f+4) .expr σ).2.at_:=by
 have hu:=cond_go f σ h;have m:=E_mo (f+3) .cond σ (Nat.le_of_lt h);unfold E; simp only;split
 · exact Nat.lt_of_lt_of_le hu (((Mo.refl m.le).next.trans (E_mo (f+3) .expr _ (Mo.refl m.le).next.le)).at_)
 · exact hu
theorem exprM_mo {σ τ:St} (h:Mo C σ τ):Mo C σ (exprM C τ).2:=h.trans (E_mo _ _ _ h.le)
theorem condM_mo {σ τ:St} (h:Mo C σ τ):Mo C σ (condM C τ).2:=h.trans (E_mo _ _ _ h.le)
theorem exprM_go {σ:St} (h:σ.at_ < C.T.length):σ.at_ < (exprM C σ).2.at_:=expr_go (10 * (C.T.length - σ.at_)+4) σ h
end Go.Proofs.YtjgkacggjhobmaaGreatDoor.Sy
namespace Go.Proofs.YtjgkacggjhobmaaGreatDoor
open Go.RowKit Lx
theorem beqT (a b:ByteArray):(a.toList==b.toList)=(a==b):=by
 rw [Go.ByteArray.toList_eq,Go.ByteArray.toList_eq];by_cases h:a=b
 · subst h; simp
 · have h1:(a==b)=false:=beq_eq_false_iff_ne.2 h;rw [h1];refine beq_eq_false_iff_ne.2 (fun e=>h ?_);exact Go.WideShapes.bytes_inj e
structure Pk where
 P:Nat
 MB:Nat
 B:Nat
 ta:Option Addr
 tc:Nat
 C:Sy.Cx
def tkv (t:Tk):Value:=.agg #[.int .i64 t.kind,.int .i64 (t.at_:Int),.string t.text,.string t.suf,.int .u64 t.num,.bool t.hex]
def Pk.cells (K:Pk) (σ:Sy.St):Array Value:=#[.slice K.ta K.C.T.length K.tc,.int .i64 (σ.at_:Int),.int .i64 (K.C.en:Int),.map (some K.MB),.int .i64 σ.code,.int .i64 σ.wat]
structure PS (w:World) (K:Pk) (σ:Sy.St):Prop where
 row:w.heap[K.P]?=some (.cells (K.cells σ) 88 (0,0))
 toks:∀ (i:Nat) (t:Tk),K.C.T[i]?=some t→∃ g,K.ta=some ⟨g,0,none⟩∧(g≠K.P∧g < K.B)∧∀ (j:Nat) (v:Value),t.cells[j]?=some v→w.cell? ⟨g,i * 6+j,none⟩=some v
 names:Names w K.MB σ.types
 le:σ.at_≤K.C.T.length
 len:K.C.T.length≤6000
 en:K.C.en≤1000000
 tx:∀ t∈K.C.T,t.text.size≤1000000∧t.suf.size≤1000000∧0≤t.num∧t.num≤18446744073709551615
 ord:K.P≠K.MB∧K.P < K.B∧K.MB < K.B∧K.B≤w.heap.size
abbrev KP (K:Pk):Nat→Prop:=fun q=>q=K.P
section
variable {w w':World} {K:Pk} {σ:Sy.St}
theorem PS.no (h:PS w K σ) (hk:Keeps No w w'):PS w' K σ :=
 ⟨(hk.block _ (Array.getElem?_eq_some_iff.1 h.row).1 (fun e=>e)).trans h.row,fun i t ht=>by
  obtain ⟨g,h1,h0,h2⟩:=h.toks i t ht;exact ⟨g,h1,h0,fun j v hj=>hk.cell0 (h2 j v hj)⟩,h.names.block (hk.block _ h.names.lt (fun e=>e)),h.le,h.len,h.en,h.tx,h.ord.1,h.ord.2.1,h.ord.2.2.1,Nat.le_trans h.ord.2.2.2 hk.size⟩
theorem PS.c (h:PS w K σ) {j:Nat} {v:Value} (hj:(K.cells σ)[j]?=some v):w.cell? ⟨K.P,j,none⟩=some v:=by rw [cell_of_row w K.P j _ _ _ h.row]; exact hj
theorem PS.f (h:PS w K σ) (j:Nat):w.frozen? ⟨K.P,j,none⟩=false:=frozen_of_row w K.P j _ _ h.row
theorem PS.lt (h:PS w K σ):K.P < w.heap.size:=(Array.getElem?_eq_some_iff.1 h.row).1
theorem PS.turn {τ:Sy.St} (h:PS w K σ) (hk:Keeps (KP K) w w') (hr:w'.heap[K.P]?=some (.cells (K.cells τ) 88 (0,0))) (ht:τ.types=σ.types) (hl:τ.at_≤K.C.T.length):PS w' K τ :=
 ⟨hr,fun i t hi=>by
  obtain ⟨g,h1,h0,h2⟩:=h.toks i t hi;exact ⟨g,h1,h0,fun j v hj=>hk.cell (h2 j v hj) h0.1⟩,by rw [ht]; exact h.names.block (hk.block _ h.names.lt (fun e=>h.ord.1 e.symm)),hl,h.len,h.en,h.tx,h.ord.1,h.ord.2.1,h.ord.2.2.1,Nat.le_trans h.ord.2.2.2 hk.size⟩
theorem PS.keepR {S:Nat→Prop} (h:PS w K σ) (hk:Keeps S w w') (hR:∀ q,S q→K.B≤q):PS w' K σ :=
 ⟨(hk.block _ h.lt (fun e=>by have:=hR _ e; have:=h.ord.2.1; omega)).trans h.row,fun i t hi=>by
  obtain ⟨g,h1,h0,h2⟩:=h.toks i t hi;exact ⟨g,h1,h0,fun j v hj=>hk.cell (h2 j v hj) (fun e=>by have e2:S g:=e; have:=hR _ e2; have:=h0.2; omega)⟩,h.names.block (hk.block _ h.names.lt (fun e=>by have:=hR _ e; have:=h.ord.2.2.1; omega)),h.le,h.len,h.en,h.tx,h.ord.1,h.ord.2.1,h.ord.2.2.1,Nat.le_trans h.ord.2.2.2 hk.size⟩
theorem PS.at_ (h:PS w K σ) {v:Int} {n:Nat} (hv:v=(n:Int)) (hn:n≤K.C.T.length):PS (w.setCell ⟨K.P,1,none⟩ (.int .i64 v)) K { σ with at_:=n }:=by
 subst hv;refine h.turn ((Keeps.refl (KP K) w).setCell (.inl rfl) _) ?_ rfl hn;rw [heap_setCell_same w K.P 1 _ _ _ h.row]; rfl
theorem PS.wrong (h:PS w K σ) (c a:Int):PS ((w.setCell ⟨K.P,4,none⟩ (.int .i64 c)).setCell ⟨K.P,5,none⟩ (.int .i64 a)) K { σ with code:=c,wat:=a }:=by
 refine h.turn (((Keeps.refl (KP K) w).setCell (.inl rfl) _).setCell (.inl rfl) _) ?_ rfl h.le;rw [heap_setCell_same _ K.P 5 _ _ _ (heap_setCell_same w K.P 4 _ _ _ h.row)]; rfl
theorem PS.tok (h:PS w K σ) {k:Nat} (hk:σ.at_+k < K.C.T.length):∃ g,K.ta=some ⟨g,0,none⟩∧∀ (j:Nat) (v:Value),(Sy.peekM K.C σ k).cells[j]?=some v→w.cell? ⟨g,(σ.at_+k) * 6+j,none⟩=some v:=by
 obtain ⟨t,ht⟩:∃ t,K.C.T[σ.at_+k]?=some t:=⟨_,List.getElem?_eq_getElem hk⟩;obtain ⟨g,h1,_,h2⟩:=h.toks _ t ht;refine ⟨g,h1,fun j v hj=>h2 j v ?_⟩;unfold Sy.peekM at hj;rw [List.getD_eq_getElem?_getD,ht] at hj;exact hj
theorem peek_end {C:Sy.Cx} {σ:Sy.St} {k:Nat} (h:¬ σ.at_+k < C.T.length):Sy.peekM C σ k=⟨0,C.en,Sy.nt,Sy.nt,0,false⟩:=by
 unfold Sy.peekM;rw [List.getD_eq_getElem?_getD,List.getElem?_eq_none (by omega)]; rfl
end
theorem infoTk:(Tryz.prog.info? 83).map (·.size)=some 6:=by kernel_rfl
theorem one6 (a b:Int) (s t:ByteArray) (c:Int) (h:Bool):(#[Value.int .i64 a,.int .i64 b,.string s,.string t,.int .u64 c,.bool h]:Array Value).all (·.oneCell')=true:=by simp [Value.oneCell']
theorem peek_any (K:Pk) (σ:Sy.St) (k:Nat) (hk:k≤100) (w:World) (h:PS w K σ):Calls Tryz.prog 40 #[.pointer (some ⟨K.P,0,none⟩),.int .i64 (k:Int)] w fun e w'=>e=.returned (tkv (Sy.peekM K.C σ k))∧Keeps No w w':=by
 have hl:=h.le;have hn:=h.len;have c0:w.cell? ⟨K.P,0,none⟩=some (.slice K.ta K.C.T.length K.tc):=h.c (j:=0) rfl;have c1:w.cell? ⟨K.P,1,none⟩=some (.int .i64 (σ.at_:Int)):=h.c (j:=1) rfl;have c2:w.cell? ⟨K.P,2,none⟩=some (.int .i64 (K.C.en:Int)):=h.c (j:=2) rfl;obtain ⟨n,hnn⟩:∃ n,K.C.T.length=n:=⟨_,rfl⟩;obtain ⟨a,ha⟩:∃ a,σ.at_=a:=⟨_,rfl⟩;obtain ⟨P,hP⟩:∃ P,K.P=P:=⟨_,rfl⟩;rw [hnn] at hn hl c0;rw [ha] at hl c1;rw [hP] at c0 c1 c2 ⊢;have hR:Hid (P < w.heap.size):=zz (by rw [← hP]; exact h.lt);by_cases hlt:a+k < n
 · have hlt1:(a:Int)+(k:Int) < (n:Int):=by omega
   have hlt0:(0:Int)≤(a:Int)+(k:Int):=by omega
   have htn:((a:Int)+(k:Int)).toNat=a+k:=by omega
   obtain ⟨g,hg,ht⟩:=h.tok (k:=k) (by rw [ha,hnn]; exact hlt);rw [hg] at c0;rw [ha] at ht;obtain ⟨t,htt⟩:∃ t,Sy.peekM K.C σ k=t:=⟨_,rfl⟩;rw [htt] at ht ⊢;have t0:=ht 0 _ rfl;have t1:=ht 1 _ rfl;have t2:=ht 2 _ rfl;have t3:=ht 3 _ rfl;have t4:=ht 4 _ rfl;have t5:=ht 5 _ rfl;rw [Nat.add_zero] at t0;clear h htt ht hP ha hnn hg;go_enter Tryz.func40,Tryz.ntmps40;go_upto_region 1 with fail
   obtain ⟨w1,hw1⟩:∃ W,w.alloc (.cells #[.int .i64 0,.int .i64 0,.string ⟨#[]⟩,.string ⟨#[]⟩,.int .u64 0,.bool false] 83)=W:=⟨_,rfl⟩;obtain ⟨R,hRR⟩:∃ R,w.heap.size=R:=⟨_,rfl⟩;have r1:w1.heap[R]?=some (.cells #[.int .i64 0,.int .i64 0,.string ⟨#[]⟩,.string ⟨#[]⟩,.int .u64 0,.bool false] 83 (0,0)):=by rw [← hw1,← hRR]; exact heap_alloc_new _ _
   have HK1:Hid (Keeps No w w1):=zz (by rw [← hw1]; exact (Keeps.refl _ _).alloc _);have HR:Hid (w.heap.size≤R):=zz (by omega);have hla:∀ (b o:Nat) (v:Value),w.cell? ⟨b,o,none⟩=some v→∀ u:KW w1,u.W.cell? ⟨b,o,none⟩=some v:=fun b o v hc u=>u.cell (HK1.out.cell0 hc)
   have HLO:Hid (∀ (b o:Nat) (v:Value),w.cell? ⟨b,o,none⟩=some v→∀ (W:World),Keeps No w1 W→∀ u:KS (fun q=>q=R) W,u.W.cell? ⟨b,o,none⟩=some v):=zz (fun b o v hc W hk u=>u.cell (hk.cell0 (HK1.out.cell0 hc)) (fun e=>by
    have e2:b=R:=e;have:=World.block_lt_of_cell? w _ hc;simp only at this; omega))
   have HCC:=zz (And.intro c0 (And.intro c1 (And.intro t0 (And.intro t1 (And.intro t2 (And.intro t3 (And.intro t4 t5)))))));have p0:=hla _ _ _ c0;have p1:=hla _ _ _ c1;have hne:Nonempty (KW w1):=⟨KW.of _⟩;rw [hw1,hRR];have HRR:=zz r1;clear hw1 hRR hla c0 c1 c2 t0 t1 t2 t3 t4 t5 r1;refine wp_region_class (C:=fun W=>∃ u:KW w1,W=u.W) (by kernel_rfl) (by kernel_rfl) ⟨⟨World.drew _,(Keeps.refl _ _).drew⟩,rfl⟩ ?_
   repeat (go_big_quiet_step (fail))
   refine wpQuiet_nil ?_;rintro _ ⟨T,rfl⟩;go_upto_region 2 with fail
   obtain ⟨W,hW⟩:∃ W,T.W=W:=⟨_,rfl⟩;have HT:Hid (Keeps No w1 W):=zz (by rw [← hW]; exact T.h);rw [hW];clear p0 p1 hne hW T;obtain ⟨c0,c1,t0,t1,t2,t3,t4,t5⟩:=HCC.out;have p0:=HLO.out _ _ _ c0 W HT.out;have p1:=HLO.out _ _ _ c1 W HT.out;have q0:=HLO.out _ _ _ t0 W HT.out;have q1:=HLO.out _ _ _ t1 W HT.out;have q2:=HLO.out _ _ _ t2 W HT.out;have q3:=HLO.out _ _ _ t3 W HT.out;have q4:=HLO.out _ _ _ t4 W HT.out;have q5:=HLO.out _ _ _ t5 W HT.out;have hne:Nonempty (KS (fun q=>q=R) W):=⟨⟨W,Keeps.refl _ _⟩⟩;have HRW:Hid (W.heap[R]?=some (.cells #[.int .i64 0,.int .i64 0,.string ⟨#[]⟩,.string ⟨#[]⟩,.int .u64 0,.bool false] 83 (0,0))):=zz ((HT.out.block _ (Array.getElem?_eq_some_iff.1 HRR.out).1 (fun e=>e)).trans HRR.out);clear c0 c1 t0 t1 t2 t3 t4 t5;refine Mix.wp_region_mix (fun W'=>∃ u:KS (fun q=>q=R) W,W'=u.W) [] (by kernel_rfl) ?_;have HV0:Hid (Keeps No W W.drew):=zz ((Keeps.refl _ W).drew);generalize W.drew=v0 at HV0 ⊢;refine Mix.mix_seg 0 12 1 (by kernel_rfl) (by kernel_rfl) rfl rfl ⟨⟨v0,HV0.out.mono (fun _ _ e=>e.elim)⟩,rfl⟩ ?_;simp only [zp1,zp2,zp3,zp4]
   repeat (go_big_quiet_step (fail))
   refine wpQuiet_nil ?_;have r0:=(HV0.out.block _ (Array.getElem?_eq_some_iff.1 HRW.out).1 (fun e=>e)).trans HRW.out;clear p0 p1 q0 q1 q2 q3 q4 q5 hne;refine Mix.mix_one 12 0 (by kernel_rfl) rfl rfl ?_;simp only [zp1,zp2,zp3,zp4];refine wpList_store_row rfl _ _ _ rfl R _ rfl rfl _ _ r0 infoTk rfl (one6 _ _ _ _ _ _) ?_;have HV1:Hid (Keeps (fun q=>q=R) W (v0.setRow R #[.int .i64 t.kind,.int .i64 (t.at_:Int),.string t.text,.string t.suf,.int .u64 t.num,.bool t.hex])):=zz (Keeps.setRow (S:=fun q=>q=R) (HV0.out.mono (fun _ _ e=>e.elim)) (.inl rfl) _);have HRV:Hid ((v0.setRow R #[.int .i64 t.kind,.int .i64 (t.at_:Int),.string t.text,.string t.suf,.int .u64 t.num,.bool t.hex]).heap[R]?=some (.cells #[.int .i64 t.kind,.int .i64 (t.at_:Int),.string t.text,.string t.suf,.int .u64 t.num,.bool t.hex] 83 (0,0))):=zz (setRow_heap _ _ _ _ _ _ r0);generalize v0.setRow R #[.int .i64 t.kind,.int .i64 (t.at_:Int),.string t.text,.string t.suf,.int .u64 t.num,.bool t.hex]=V at HV1 HRV ⊢;clear r0;go_wp2_with fail;refine ⟨.inr ⟨⟨V,HV1.out⟩,rfl⟩,?_⟩;refine Mix.mix_end (by kernel_rfl) ?_;have HKV:Hid (Keeps No w V):=zz ((HK1.out.trans HT.out (fun _ _ e=>e)).trans HV1.out (fun q hq e=>by have:=HR.out; omega));have hrc:=fun j=>cell_of_row V R j _ _ _ HRV.out
   go_wp2_with fail;refine bodyPost_ret (v:=tkv t) ?_ rfl ⟨rfl,HKV.out⟩;simp [results,Tryz.results40,go_sem,hrc,tkv]
 · have hlt1:¬ (a:Int)+(k:Int) < (n:Int):=by omega
   have hpe:Sy.peekM K.C σ k=⟨0,K.C.en,Sy.nt,Sy.nt,0,false⟩:=peek_end (by rw [ha,hnn]; exact hlt);rw [hpe];obtain ⟨en,hen⟩:∃ en,K.C.en=en:=⟨_,rfl⟩;rw [hen] at c2 ⊢;clear h hpe hP ha hnn hen;go_enter Tryz.func40,Tryz.ntmps40;go_upto_region 1 with fail
   obtain ⟨w1,hw1⟩:∃ W,w.alloc (.cells #[.int .i64 0,.int .i64 0,.string ⟨#[]⟩,.string ⟨#[]⟩,.int .u64 0,.bool false] 83)=W:=⟨_,rfl⟩;obtain ⟨R,hRR⟩:∃ R,w.heap.size=R:=⟨_,rfl⟩;have r1:w1.heap[R]?=some (.cells #[.int .i64 0,.int .i64 0,.string ⟨#[]⟩,.string ⟨#[]⟩,.int .u64 0,.bool false] 83 (0,0)):=by rw [← hw1,← hRR]; exact heap_alloc_new _ _
   have HK1:Hid (Keeps No w w1):=zz (by rw [← hw1]; exact (Keeps.refl _ _).alloc _);have HR:Hid (w.heap.size≤R):=zz (by omega);have hla:∀ (b o:Nat) (v:Value),w.cell? ⟨b,o,none⟩=some v→∀ u:KW w1,u.W.cell? ⟨b,o,none⟩=some v:=fun b o v hc u=>u.cell (HK1.out.cell0 hc)
   have HCC:=zz c2;have p0:=hla _ _ _ c0;have p1:=hla _ _ _ c1;have hne:Nonempty (KW w1):=⟨KW.of _⟩;rw [hw1,hRR];have HRR:=zz r1;clear hw1 hRR hla c0 c1 c2 r1;refine wp_region_class (C:=fun W=>∃ u:KW w1,W=u.W) (by kernel_rfl) (by kernel_rfl) ⟨⟨World.drew _,(Keeps.refl _ _).drew⟩,rfl⟩ ?_
   repeat (go_big_quiet_step (fail))
   refine wpQuiet_nil ?_;rintro _ ⟨T,rfl⟩;obtain ⟨W,hW⟩:∃ W,T.W=W:=⟨_,rfl⟩;have HT:Hid (Keeps No w1 W):=zz (by rw [← hW]; exact T.h);rw [hW];clear p0 p1 hne hW T;have c2:=HT.out.cell0 (HK1.out.cell0 HCC.out);have r0:W.heap[R]?=some (.cells #[.int .i64 0,.int .i64 0,.string ⟨#[]⟩,.string ⟨#[]⟩,.int .u64 0,.bool false] 83 (0,0)):=(HT.out.block _ (Array.getElem?_eq_some_iff.1 HRR.out).1 (fun e=>e)).trans HRR.out;have hcs:(#[Value.int .i64 0,.int .i64 (en:Int),.string ⟨#[]⟩,.string ⟨#[]⟩,.int .u64 0,.bool false]:Array Value).all (·.oneCell')=true:=one6 _ _ _ _ _ _;go_upto_region 3 with fail
   repeat (first | (refine wpList_store_row rfl _ _ _ rfl R _ rfl rfl _ _ r0 infoTk rfl hcs ?_) | go_values | go_skip | go_guarded | go_step | go_upon | go_back)
   have HKV:Hid (Keeps No w (W.setRow R #[.int .i64 0,.int .i64 (en:Int),.string ⟨#[]⟩,.string ⟨#[]⟩,.int .u64 0,.bool false])):=zz (((HK1.out.trans HT.out (fun _ _ e=>e))).setRow (.inr HR.out) _);have hrc:=fun j=>cell_of_row _ R j _ _ _ (setRow_heap W R _ #[.int .i64 0,.int .i64 (en:Int),.string ⟨#[]⟩,.string ⟨#[]⟩,.int .u64 0,.bool false] _ _ r0)
   refine bodyPost_ret (v:=tkv ⟨0,en,Sy.nt,Sy.nt,0,false⟩) ?_ rfl ⟨rfl,HKV.out⟩;simp [results,Tryz.results40,go_sem,hrc,tkv,Act.put,Sy.nt]
structure At (w w':World) (K:Pk) (τ:Sy.St):Prop where
 p:PS w' K τ
 k:Keeps (KP K) w w'
theorem At.of_no {w w':World} {K:Pk} {σ:Sy.St} (h:PS w K σ) (hk:Keeps No w w'):At w w' K σ:=⟨h.no hk,hk.mono (fun _ _ e=>e.elim)⟩
theorem At.trans {a b c:World} {K:Pk} {σ τ:Sy.St} (h:At a b K σ) (g:At b c K τ):At a c K τ:=⟨g.p,h.k.trans g.k (fun _ _ e=>e)⟩
theorem At.no {a b c:World} {K:Pk} {σ:Sy.St} (h:At a b K σ) (hk:Keeps No b c):At a c K σ:=⟨h.p.no hk,h.k.trans hk (fun _ _ e=>e.elim)⟩
theorem At.after {a b c:World} {K:Pk} {σ:Sy.St} (hk:Keeps No a b) (h:At b c K σ):At a c K σ:=⟨h.p,(hk.mono (T:=KP K) (fun _ _ e=>e.elim)).trans h.k (fun _ _ e=>e)⟩
theorem At.newR {a b c:World} {K:Pk} {σ τ:Sy.St} {R:Nat} (h:At a b K τ) (hs:PS a K σ) (hk:Keeps (fun q=>q=R) b c) (hR:a.heap.size≤R):At a c K τ :=
 ⟨h.p.keepR hk (fun q e=>by subst e; exact Nat.le_trans hs.ord.2.2.2 hR),h.k.trans hk (fun q hq e=>by omega)⟩
theorem peek_as (K:Pk) (σ:Sy.St) (k:Nat) (hk:k≤100) (t:Tk) (ht:Sy.peekM K.C σ k=t) (z:Int) (hz:z=(k:Int)) (w:World) (h:PS w K σ):Calls Tryz.prog 40 #[.pointer (some ⟨K.P,0,none⟩),.int .i64 z] w fun e w'=>e=.returned (.agg #[.int .i64 t.kind,.int .i64 (t.at_:Int),.string t.text,.string t.suf,.int .u64 t.num,.bool t.hex])∧Keeps No w w':=by
 subst ht; subst hz;exact peek_any K σ k hk w h
theorem tk_fld (k a:Int) (s t:ByteArray) (c:Int) (h:Bool) (W:World) :
    (Instr.field 83 (.agg #[.int .i64 k,.int .i64 a,.string s,.string t,.int .u64 c,.bool h]) 0).run Tryz.prog W=.ok (.int .i64 k) W ∧
    (Instr.field 83 (.agg #[.int .i64 k,.int .i64 a,.string s,.string t,.int .u64 c,.bool h]) 1).run Tryz.prog W=.ok (.int .i64 a) W ∧
    (Instr.field 83 (.agg #[.int .i64 k,.int .i64 a,.string s,.string t,.int .u64 c,.bool h]) 2).run Tryz.prog W=.ok (.string s) W:=by
 refine ⟨?_,?_,?_⟩
 all_goals
  unfold Instr.field;simp [go_sem,run_underlying Tryz.underlying83,asAgg]
theorem is_any (K:Pk) (σ:Sy.St) (x:ByteArray) (w:World) (h:PS w K σ):Calls Tryz.prog 41 #[.pointer (some ⟨K.P,0,none⟩),.string x] w fun e w'=>e=.returned (.bool (Sy.isM K.C σ x))∧Keeps No w w':=by
 obtain ⟨t,ht⟩:∃ t,Sy.peekM K.C σ 0=t:=⟨_,rfl⟩;have HP:=zz (fun W (hk:Keeps No w W)=>peek_as K σ 0 (by omega) t ht 0 rfl W (h.no hk));have HI:Hid (Sy.isM K.C σ x=(t.text.toList==x.toList)):=zz (by unfold Sy.isM Sy.txt; rw [ht,beqT]);clear h ht;go_enter Tryz.func41,Tryz.ntmps41;go_wp2_with fail;refine (HP.out _ (Keeps.refl _ _)).mono ?_;rintro e w1 ⟨rfl,hk⟩;have HK:=zz hk;clear hk;have f2:=fun W=>(tk_fld t.kind t.at_ t.text t.suf t.num t.hex W).2.2
 go_wp2_with fail;go_returns;exact ⟨rb rfl HI.out.symm,HK.out⟩
theorem is_as (K:Pk) (σ:Sy.St) (x:ByteArray) (b:Bool) (hb:Sy.isM K.C σ x=b) (w:World) (h:PS w K σ):Calls Tryz.prog 41 #[.pointer (some ⟨K.P,0,none⟩),.string x] w fun e w'=>e=.returned (.bool b)∧Keeps No w w':=by
 rw [← hb]; exact is_any K σ x w h
theorem next_any (K:Pk) (σ:Sy.St) (w:World) (h:PS w K σ):Calls Tryz.prog 65 #[.pointer (some ⟨K.P,0,none⟩)] w fun e w'=>e=.returned (tkv (Sy.peekM K.C σ 0))∧At w w' K (Sy.nextM K.C σ):=by
 obtain ⟨t,ht⟩:∃ t,Sy.peekM K.C σ 0=t:=⟨_,rfl⟩;have HP:=zz (fun W (hk:Keeps No w W)=>peek_as K σ 0 (by omega) t ht 0 rfl W (h.no hk));rw [ht];have hl:=h.le;have hn:=h.len;obtain ⟨n,hnn⟩:∃ n,K.C.T.length=n:=⟨_,rfl⟩;obtain ⟨a,ha⟩:∃ a,σ.at_=a:=⟨_,rfl⟩;rw [hnn] at hn hl;rw [ha] at hl;have HS:=zz h;have HC:Hid (∀ W,PS W K σ→W.cell? ⟨K.P,0,none⟩=some (.slice K.ta n K.tc)∧W.cell? ⟨K.P,1,none⟩=some (.int .i64 (a:Int))):=zz (fun W hW=>⟨by rw [← hnn]; exact hW.c (j:=0) rfl,by rw [← ha]; exact hW.c (j:=1) rfl⟩);have HN:Hid (Sy.nextM K.C σ=if a < n then { σ with at_:=a+1 } else σ):=zz (by unfold Sy.nextM; rw [ha,hnn]);have HNN:=zz hnn;clear h ht hnn ha;go_enter Tryz.func65,Tryz.ntmps65;go_upto_region 1 with fail
 obtain ⟨w1,hw1⟩:∃ W,w.alloc (.cells #[.int .i64 0,.int .i64 0,.string ⟨#[]⟩,.string ⟨#[]⟩,.int .u64 0,.bool false] 83)=W:=⟨_,rfl⟩;obtain ⟨R,hRR⟩:∃ R,w.heap.size=R:=⟨_,rfl⟩;have r1:w1.heap[R]?=some (.cells #[.int .i64 0,.int .i64 0,.string ⟨#[]⟩,.string ⟨#[]⟩,.int .u64 0,.bool false] 83 (0,0)):=by rw [← hw1,← hRR]; exact heap_alloc_new _ _
 have HK1:Hid (Keeps No w w1):=zz (by rw [← hw1]; exact (Keeps.refl _ _).alloc _);have HR:Hid (w.heap.size≤R∧K.P≠R):=zz ⟨by omega,by have:=HS.out.lt; omega⟩;rw [hw1,hRR];have HRR:=zz r1;clear hw1 hRR r1;go_wp2_with fail;refine (HP.out _ HK1.out).mono ?_;rintro e w2 ⟨rfl,hk2⟩;have HK2:Hid (Keeps No w w2):=zz (HK1.out.trans hk2 (fun _ _ e=>e));have HRR2:Hid (w2.heap[R]?=some (.cells #[.int .i64 0,.int .i64 0,.string ⟨#[]⟩,.string ⟨#[]⟩,.int .u64 0,.bool false] 83 (0,0))):=zz ((hk2.block _ (Array.getElem?_eq_some_iff.1 HRR.out).1 (fun e=>e)).trans HRR.out);clear hk2 HP HRR;go_upto_region 2 with fail
 obtain ⟨w3,hw3⟩:∃ W,w2.alloc (.cells #[.int .i64 t.kind,.int .i64 (t.at_:Int),.string t.text,.string t.suf,.int .u64 t.num,.bool t.hex] 83)=W:=⟨_,rfl⟩;obtain ⟨Q,hQ⟩:∃ R,w2.heap.size=R:=⟨_,rfl⟩;have r1:w3.heap[Q]?=some (.cells #[.int .i64 t.kind,.int .i64 (t.at_:Int),.string t.text,.string t.suf,.int .u64 t.num,.bool t.hex] 83 (0,0)):=by rw [← hw3,← hQ]; exact heap_alloc_new _ _
 have hk3:Keeps No w2 w3:=by rw [← hw3]; exact (Keeps.refl _ _).alloc _
 have HK3:Hid (Keeps No w w3):=zz (HK2.out.trans hk3 (fun _ _ e=>e));have HRR3:Hid (w3.heap[R]?=some (.cells #[.int .i64 0,.int .i64 0,.string ⟨#[]⟩,.string ⟨#[]⟩,.int .u64 0,.bool false] 83 (0,0))):=zz ((hk3.block _ (Array.getElem?_eq_some_iff.1 HRR2.out).1 (fun e=>e)).trans HRR2.out);have HQ3:=zz r1;have HQR:Hid (Q≠R∧Q≠K.P):=zz ⟨by have:=(Array.getElem?_eq_some_iff.1 HRR2.out).1; omega,by have:=(HS.out.no HK2.out).lt; omega⟩;rw [hw3,hQ];clear hw3 hQ r1 hk3 HRR2 HK1;obtain ⟨c0,c1⟩:=HC.out w3 (HS.out.no HK3.out);have p0:=fun u:KW w3=>u.cell c0
 have p1:=fun u:KW w3=>u.cell c1
 have hne:Nonempty (KW w3):=⟨KW.of _⟩;clear c0 c1;by_cases hlt:a < n
 · have hlt':(a:Int) < (n:Int):=by omega
   refine wp_region_class (C:=fun W=>∃ u:KW w3,W=u.W) (by kernel_rfl) (by kernel_rfl) ⟨⟨World.drew _,(Keeps.refl _ _).drew⟩,rfl⟩ ?_
   repeat (go_big_quiet_step (fail))
   refine wpQuiet_nil ?_;rintro _ ⟨T,rfl⟩;obtain ⟨W,hW⟩:∃ W,T.W=W:=⟨_,rfl⟩;have HT:Hid (Keeps No w3 W):=zz (by rw [← hW]; exact T.h);rw [hW];clear p0 p1 hne hW T;have HKW:Hid (Keeps No w W):=zz (HK3.out.trans HT.out (fun _ _ e=>e));obtain ⟨c0,c1⟩:=HC.out W (HS.out.no HKW.out);have fz:=(HS.out.no HKW.out).f 1;have HST:Hid (PS (W.setCell ⟨K.P,1,none⟩ (.int .i64 ((a:Int)+1))) K (Sy.nextM K.C σ)):=zz (by
    rw [HN.out,if_pos hlt];exact (HS.out.no HKW.out).at_ (by omega) (by rw [HNN.out]; omega))
   have HKS:Hid (Keeps (KP K) w (W.setCell ⟨K.P,1,none⟩ (.int .i64 ((a:Int)+1)))):=zz (Keeps.setCell (S:=KP K) (HKW.out.mono (fun _ _ e=>e.elim)) (.inl rfl) _);go_upto_region 4 with fail
   have HKV3:Hid (Keeps (KP K) w3 (W.setCell ⟨K.P,1,none⟩ (.int .i64 ((a:Int)+1)))):=zz (Keeps.setCell (S:=KP K) (HT.out.mono (fun _ _ e=>e.elim)) (.inl rfl) _);go_upto_region 4 with fail
   generalize W.setCell ⟨K.P,1,none⟩ (.int .i64 ((a:Int)+1))=V at HST HKS HKV3 ⊢;clear c0 c1 fz HT HKW;have HRV:Hid (V.heap[R]?=some (.cells #[.int .i64 0,.int .i64 0,.string ⟨#[]⟩,.string ⟨#[]⟩,.int .u64 0,.bool false] 83 (0,0))):=zz ((HKV3.out.block _ (Array.getElem?_eq_some_iff.1 HRR3.out).1 (fun e=>HR.out.2 e.symm)).trans HRR3.out);have hqv:V.heap[Q]?=some (.cells #[.int .i64 t.kind,.int .i64 (t.at_:Int),.string t.text,.string t.suf,.int .u64 t.num,.bool t.hex] 83 (0,0)):=(HKV3.out.block _ (Array.getElem?_eq_some_iff.1 HQ3.out).1 (fun e=>HQR.out.2 e)).trans HQ3.out;have q0:V.cell? ⟨Q,0,none⟩=some (.int .i64 t.kind):=by rw [cell_of_row V Q 0 _ _ _ hqv]; rfl
   have q1:V.cell? ⟨Q,1,none⟩=some (.int .i64 (t.at_:Int)):=by rw [cell_of_row V Q 1 _ _ _ hqv]; rfl
   have q2:V.cell? ⟨Q,2,none⟩=some (.string t.text):=by rw [cell_of_row V Q 2 _ _ _ hqv]; rfl
   have q3:V.cell? ⟨Q,3,none⟩=some (.string t.suf):=by rw [cell_of_row V Q 3 _ _ _ hqv]; rfl
   have q4:V.cell? ⟨Q,4,none⟩=some (.int .u64 t.num):=by rw [cell_of_row V Q 4 _ _ _ hqv]; rfl
   have q5:V.cell? ⟨Q,5,none⟩=some (.bool t.hex):=by rw [cell_of_row V Q 5 _ _ _ hqv]; rfl
   clear hqv;go_upto_region 4 with fail
   repeat (first | (refine wpList_store_row rfl _ _ _ rfl R _ rfl rfl _ _ HRV.out infoTk rfl (one6 _ _ _ _ _ _) ?_) | go_values | go_skip | go_guarded | go_step | go_upon | go_back)
   have hrc:=fun j=>cell_of_row _ R j _ _ _ (setRow_heap V R _ #[.int .i64 t.kind,.int .i64 (t.at_:Int),.string t.text,.string t.suf,.int .u64 t.num,.bool t.hex] _ _ HRV.out)
   have HFA:Hid (At w (V.setRow R #[.int .i64 t.kind,.int .i64 (t.at_:Int),.string t.text,.string t.suf,.int .u64 t.num,.bool t.hex]) K (Sy.nextM K.C σ)):=zz (by
    have hkr:Keeps (fun q=>q=R) V (V.setRow R #[.int .i64 t.kind,.int .i64 (t.at_:Int),.string t.text,.string t.suf,.int .u64 t.num,.bool t.hex]):=Keeps.setRow (S:=fun q=>q=R) (Keeps.refl _ _) (.inl rfl) _;exact ⟨HST.out.keepR hkr (fun q e=>by subst e; exact Nat.le_trans HS.out.ord.2.2.2 HR.out.1),(HKS.out.setRow (.inr HR.out.1) _)⟩)
   refine bodyPost_ret (v:=tkv t) ?_ rfl ⟨rfl,HFA.out⟩;simp [results,Tryz.results65,go_sem,hrc,tkv,Act.put]
 · have hlt':¬ (a:Int) < (n:Int):=by omega
   refine wp_region_class (C:=fun W=>∃ u:KW w3,W=u.W) (by kernel_rfl) (by kernel_rfl) ⟨⟨World.drew _,(Keeps.refl _ _).drew⟩,rfl⟩ ?_
   repeat (go_big_quiet_step (fail))
   refine wpQuiet_nil ?_;rintro _ ⟨T,rfl⟩;obtain ⟨V,hW⟩:∃ W,T.W=W:=⟨_,rfl⟩;have HT:Hid (Keeps No w3 V):=zz (by rw [← hW]; exact T.h);rw [hW];clear p0 p1 hne hW T;have HKV3:Hid (Keeps (KP K) w3 V):=zz (HT.out.mono (fun _ _ e=>e.elim));have HST:Hid (PS V K (Sy.nextM K.C σ)):=zz (by rw [HN.out,if_neg hlt]; exact HS.out.no (HK3.out.trans HT.out (fun _ _ e=>e)));have HKS:Hid (Keeps (KP K) w V):=zz ((HK3.out.trans HT.out (fun _ _ e=>e)).mono (fun _ _ e=>e.elim));have HRV:Hid (V.heap[R]?=some (.cells #[.int .i64 0,.int .i64 0,.string ⟨#[]⟩,.string ⟨#[]⟩,.int .u64 0,.bool false] 83 (0,0))):=zz ((HKV3.out.block _ (Array.getElem?_eq_some_iff.1 HRR3.out).1 (fun e=>HR.out.2 e.symm)).trans HRR3.out);have hqv:V.heap[Q]?=some (.cells #[.int .i64 t.kind,.int .i64 (t.at_:Int),.string t.text,.string t.suf,.int .u64 t.num,.bool t.hex] 83 (0,0)):=(HKV3.out.block _ (Array.getElem?_eq_some_iff.1 HQ3.out).1 (fun e=>HQR.out.2 e)).trans HQ3.out;have q0:V.cell? ⟨Q,0,none⟩=some (.int .i64 t.kind):=by rw [cell_of_row V Q 0 _ _ _ hqv]; rfl
   have q1:V.cell? ⟨Q,1,none⟩=some (.int .i64 (t.at_:Int)):=by rw [cell_of_row V Q 1 _ _ _ hqv]; rfl
   have q2:V.cell? ⟨Q,2,none⟩=some (.string t.text):=by rw [cell_of_row V Q 2 _ _ _ hqv]; rfl
   have q3:V.cell? ⟨Q,3,none⟩=some (.string t.suf):=by rw [cell_of_row V Q 3 _ _ _ hqv]; rfl
   have q4:V.cell? ⟨Q,4,none⟩=some (.int .u64 t.num):=by rw [cell_of_row V Q 4 _ _ _ hqv]; rfl
   have q5:V.cell? ⟨Q,5,none⟩=some (.bool t.hex):=by rw [cell_of_row V Q 5 _ _ _ hqv]; rfl
   clear hqv;go_upto_region 4 with fail
   repeat (first | (refine wpList_store_row rfl _ _ _ rfl R _ rfl rfl _ _ HRV.out infoTk rfl (one6 _ _ _ _ _ _) ?_) | go_values | go_skip | go_guarded | go_step | go_upon | go_back)
   have hrc:=fun j=>cell_of_row _ R j _ _ _ (setRow_heap V R _ #[.int .i64 t.kind,.int .i64 (t.at_:Int),.string t.text,.string t.suf,.int .u64 t.num,.bool t.hex] _ _ HRV.out)
   have HFA:Hid (At w (V.setRow R #[.int .i64 t.kind,.int .i64 (t.at_:Int),.string t.text,.string t.suf,.int .u64 t.num,.bool t.hex]) K (Sy.nextM K.C σ)):=zz (by
    have hkr:Keeps (fun q=>q=R) V (V.setRow R #[.int .i64 t.kind,.int .i64 (t.at_:Int),.string t.text,.string t.suf,.int .u64 t.num,.bool t.hex]):=Keeps.setRow (S:=fun q=>q=R) (Keeps.refl _ _) (.inl rfl) _;exact ⟨HST.out.keepR hkr (fun q e=>by subst e; exact Nat.le_trans HS.out.ord.2.2.2 HR.out.1),(HKS.out.setRow (.inr HR.out.1) _)⟩)
   refine bodyPost_ret (v:=tkv t) ?_ rfl ⟨rfl,HFA.out⟩;simp [results,Tryz.results65,go_sem,hrc,tkv,Act.put]
end Go.Proofs.YtjgkacggjhobmaaGreatDoor
