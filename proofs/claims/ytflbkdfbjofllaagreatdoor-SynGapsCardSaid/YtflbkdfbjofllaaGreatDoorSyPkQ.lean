import Derived.Test.YtflbkdfbjofllaaGreatDoorSyPkP
import Derived.Test.YtflbkdfbjofllaaGreatDoorSyPkO
import Derived.Test.YtflbkdfbjofllaaGreatDoorSyPkB
import Derived.Deep.DeepCutAuto
import Derived.Deep.Onto
import Derived.Test.YtflbkdfbjofllaaGreatDoorSyPkK
import Derived.Carry
import Derived.IntWalk
import Derived.BigQuiet
import Derived.Deep.LoopGhost
import Derived.Test.YtflbkdfbjofllaaGreatDoorRows
import Derived.Test.YtflbkdfbjofllaaGreatDoorSyPkL
import Derived.ProofKit
import Derived.LaidMore
import Derived.OpenShut
import Derived.Stop.Joined
import Derived.Stop.LaidErr
set_option maxRecDepth 100000
set_option maxHeartbeats 25600000
set_option linter.unusedSimpArgs false
set_option linter.unusedVariables false
namespace Go.Proofs.YtflbkdfbjofllaaGreatDoor.L
open Go.RowKit
theorem token_name (p:Nat) (s:ByteArray) (i:Nat) (hi:i≤s.size) (hs:s.size≤4611686018427387904) (c:Int) (HC:Hid (Lx.pk s i=c)) (HL:Hid (Lx.letB c=true)) (K C:Int) (E:Nat) (HN1:Hid ((Lx.nameM s i (Lx.nameEnd s i)).2=K)) (HN2:Hid ((Lx.nameM s i (Lx.nameEnd s i)).1=C)) (HN3:Hid (Lx.nameEnd s i=E)) (w0 w:World) (h:Sc p s i w0 w) :
    Calls Tryz.prog 47 #[.pointer (some ⟨p,0,none⟩)] w (TokPost p s w0 K ⟨#[]⟩ 0 false C E):=by
 have HZ:Hid (w.heap.size < (w.alloc (.cells #[.int .i64 0,.int .i64 0,.string ⟨#[]⟩,.string ⟨#[]⟩,.int .u64 0,.bool false] 45)).heap.size):=zz (by simp);have HT:=zz (TokAt.made w);have HQ:=zz (Nat.ne_of_gt h.lt);have HG:=zz h.g.size;have HS:=zz h;have B0:Hid (Sc p s i (w.alloc (.cells #[.int .i64 0,.int .i64 0,.string ⟨#[]⟩,.string ⟨#[]⟩,.int .u64 0,.bool false] 45)) (w.alloc (.cells #[.int .i64 0,.int .i64 0,.string ⟨#[]⟩,.string ⟨#[]⟩,.int .u64 0,.bool false] 45))):=zz (h.alloc _).refl;clear h;have hcb:=Lx.pk_bd s i;rw [HC.out] at hcb;go_enter Tryz.func47,Tryz.ntmps47;go_wp2_with fail;refine (peek_as p s i i 0 _ (by decide) (by omega) hi hs HC _ _ B0.out).mono ?_;rintro e x1 ⟨rfl,h1⟩;have B1:=zz h1;clear h1;go_wp2_with fail;refine (letter_as c _ hcb HL _).mono ?_;rintro e x2 ⟨rfl,rfl⟩;have hN:=name_any p s i hi hs _ _ B1.out;rw [HN1.out,HN2.out,HN3.out] at hN;go_wp2_with fail;refine (hN).mono ?_;rintro e x4 ⟨he,h1⟩;unfold tokV at he;subst he;have B4:=zz h1;clear h1;obtain ⟨t0,t1,t2,t3,t4,t5,tf⟩:=(HT.out.on B4.out HZ.out HQ.out).cells;go_wp2_with fail;refine bodyPost_ret (v:=.tuple #[tokV K ⟨#[]⟩ 0 false,.int .i64 C]) (by simp [results,Tryz.results47,go_sem,tokV,t0,t1,t2,t3,t4,t5]) rfl ⟨rfl,?_⟩
 repeat (first | with_reducible refine Sc.setq ?_ HG.out HQ.out _ _ | with_reducible refine Sc.drewN ?_ _)
 exact (HS.out.alloc _).onto B4.out
theorem token_number (p:Nat) (s:ByteArray) (i:Nat) (hi:i≤s.size) (hs:s.size≤4611686018427387904) (c:Int) (HC:Hid (Lx.pk s i=c)) (HL:Hid (Lx.letB c=false)) (HD:Hid (Lx.digB c=true)) (r:Lx.NumR) (HR:Hid (Lx.numberM s i=r)) (w0 w:World) (h:Sc p s i w0 w) :
    Calls Tryz.prog 47 #[.pointer (some ⟨p,0,none⟩)] w (RecPost p s w0 r):=by
 have HZ:Hid (w.heap.size < (w.alloc (.cells #[.int .i64 0,.int .i64 0,.string ⟨#[]⟩,.string ⟨#[]⟩,.int .u64 0,.bool false] 45)).heap.size):=zz (by simp);have HT:=zz (TokAt.made w);have HQ:=zz (Nat.ne_of_gt h.lt);have HG:=zz h.g.size;have HS:=zz h;have B0:Hid (Sc p s i (w.alloc (.cells #[.int .i64 0,.int .i64 0,.string ⟨#[]⟩,.string ⟨#[]⟩,.int .u64 0,.bool false] 45)) (w.alloc (.cells #[.int .i64 0,.int .i64 0,.string ⟨#[]⟩,.string ⟨#[]⟩,.int .u64 0,.bool false] 45))):=zz (h.alloc _).refl;clear h;have hcb:=Lx.pk_bd s i;rw [HC.out] at hcb;go_enter Tryz.func47,Tryz.ntmps47;go_wp2_with fail;refine (peek_as p s i i 0 _ (by decide) (by omega) hi hs HC _ _ B0.out).mono ?_;rintro e x1 ⟨rfl,h1⟩;have B1:=zz h1;clear h1;go_wp2_with fail;refine (letter_as c _ hcb HL _).mono ?_;rintro e x2 ⟨rfl,rfl⟩;go_wp2_with fail;refine (digit_as c _ hcb HD _).mono ?_;rintro e x3 ⟨rfl,rfl⟩;have hN:=number_any p s i hi hs _ _ B1.out;rw [HR.out] at hN;obtain ⟨code,j,kind,suf,num,hex⟩:=r;unfold RecPost at hN ⊢;go_wp2_with fail;refine (hN).mono ?_;rintro e x4 ⟨he,h1⟩;unfold tokV at he;subst he;have B4:=zz h1;clear h1;obtain ⟨t0,t1,t2,t3,t4,t5,tf⟩:=(HT.out.on B4.out HZ.out HQ.out).cells;go_wp2_with fail;refine bodyPost_ret (v:=.tuple #[tokV kind suf num hex,.int .i64 code]) (by simp [results,Tryz.results47,go_sem,tokV,t0,t1,t2,t3,t4,t5]) rfl ⟨rfl,?_⟩
 repeat (first | with_reducible refine Sc.setq ?_ HG.out HQ.out _ _ | with_reducible refine Sc.drewN ?_ _)
 exact (HS.out.alloc _).onto B4.out
theorem token_char (p:Nat) (s:ByteArray) (i:Nat) (hi:i≤s.size) (hs:s.size≤4611686018427387904) (c:Int) (HC:Hid (Lx.pk s i=c)) (HL:Hid (Lx.letB c=false)) (HD:Hid (Lx.digB c=false)) (H39:Hid (c=39)) (K C V:Int) (E:Nat) (H1:Hid (Lx.chK s i=K)) (H2:Hid ((Lx.chM s i).1=C)) (H3:Hid ((Lx.chM s i).2.2=V)) (H4:Hid (i+(Lx.chM s i).2.1=E)) (w0 w:World) (h:Sc p s i w0 w) :
    Calls Tryz.prog 47 #[.pointer (some ⟨p,0,none⟩)] w (TokPost p s w0 K ⟨#[]⟩ V false C E):=by
 have HZ:Hid (w.heap.size < (w.alloc (.cells #[.int .i64 0,.int .i64 0,.string ⟨#[]⟩,.string ⟨#[]⟩,.int .u64 0,.bool false] 45)).heap.size):=zz (by simp);have HT:=zz (TokAt.made w);have HQ:=zz (Nat.ne_of_gt h.lt);have HG:=zz h.g.size;have HS:=zz h;have B0:Hid (Sc p s i (w.alloc (.cells #[.int .i64 0,.int .i64 0,.string ⟨#[]⟩,.string ⟨#[]⟩,.int .u64 0,.bool false] 45)) (w.alloc (.cells #[.int .i64 0,.int .i64 0,.string ⟨#[]⟩,.string ⟨#[]⟩,.int .u64 0,.bool false] 45))):=zz (h.alloc _).refl;clear h;have hcb:=Lx.pk_bd s i;rw [HC.out] at hcb;go_enter Tryz.func47,Tryz.ntmps47;go_wp2_with fail;refine (peek_as p s i i 0 _ (by decide) (by omega) hi hs HC _ _ B0.out).mono ?_;rintro e x1 ⟨rfl,h1⟩;have B1:=zz h1;clear h1;go_wp2_with fail;refine (letter_as c _ hcb HL _).mono ?_;rintro e x2 ⟨rfl,rfl⟩;go_wp2_with fail;refine (digit_as c _ hcb HD _).mono ?_;rintro e x3 ⟨rfl,rfl⟩;have hN:=char_any p s i hi hs _ _ B1.out;rw [H1.out,H2.out,H3.out,H4.out] at hN;have q39:(c==39)=true:=by rw [H39.out]; rfl
 go_wp2_with fail;refine (hN).mono ?_;rintro e x4 ⟨he,h1⟩;unfold tokV at he;subst he;have B4:=zz h1;clear h1;obtain ⟨t0,t1,t2,t3,t4,t5,tf⟩:=(HT.out.on B4.out HZ.out HQ.out).cells;go_wp2_with fail;refine bodyPost_ret (v:=.tuple #[tokV K ⟨#[]⟩ V false,.int .i64 C]) (by simp [results,Tryz.results47,go_sem,tokV,t0,t1,t2,t3,t4,t5]) rfl ⟨rfl,?_⟩
 repeat (first | with_reducible refine Sc.setq ?_ HG.out HQ.out _ _ | with_reducible refine Sc.drewN ?_ _)
 exact (HS.out.alloc _).onto B4.out
theorem token_none (p:Nat) (s:ByteArray) (i:Nat) (hi:i≤s.size) (hs:s.size≤4611686018427387904) (c:Int) (HC:Hid (Lx.pk s i=c)) (HL:Hid (Lx.letB c=false)) (HD:Hid (Lx.digB c=false)) (h39:c≠39) (HG2:Hid (Lx.signM (Lx.pk s i) (Lx.pk s (i+1)) (Lx.pk s (i+2))=0)) (w0 w:World) (h:Sc p s i w0 w) :
    Calls Tryz.prog 47 #[.pointer (some ⟨p,0,none⟩)] w (TokPost p s w0 0 ⟨#[]⟩ 0 false 3 i):=by
 have HZ:Hid (w.heap.size < (w.alloc (.cells #[.int .i64 0,.int .i64 0,.string ⟨#[]⟩,.string ⟨#[]⟩,.int .u64 0,.bool false] 45)).heap.size):=zz (by simp);have HT:=zz (TokAt.made w);have HQ:=zz (Nat.ne_of_gt h.lt);have HG:=zz h.g.size;have HS:=zz h;have B0:Hid (Sc p s i (w.alloc (.cells #[.int .i64 0,.int .i64 0,.string ⟨#[]⟩,.string ⟨#[]⟩,.int .u64 0,.bool false] 45)) (w.alloc (.cells #[.int .i64 0,.int .i64 0,.string ⟨#[]⟩,.string ⟨#[]⟩,.int .u64 0,.bool false] 45))):=zz (h.alloc _).refl;clear h;have hcb:=Lx.pk_bd s i;rw [HC.out] at hcb;go_enter Tryz.func47,Tryz.ntmps47;go_wp2_with fail;refine (peek_as p s i i 0 _ (by decide) (by omega) hi hs HC _ _ B0.out).mono ?_;rintro e x1 ⟨rfl,h1⟩;have B1:=zz h1;clear h1;go_wp2_with fail;refine (letter_as c _ hcb HL _).mono ?_;rintro e x2 ⟨rfl,rfl⟩;go_wp2_with fail;refine (digit_as c _ hcb HD _).mono ?_;rintro e x3 ⟨rfl,rfl⟩;have h39':(c==39)=false:=by simpa using h39
 have hN:=sign_any p s i hi hs _ _ B1.out;rw [HG2.out] at hN;go_wp2_with fail;refine hN.mono ?_;rintro e x4 ⟨rfl,h1⟩;have B4:=zz h1;clear h1;obtain ⟨t0,t1,t2,t3,t4,t5,tf⟩:=(HT.out.on B4.out HZ.out HQ.out).cells;go_wp2_with fail;refine bodyPost_ret (v:=.tuple #[tokV 0 ⟨#[]⟩ 0 false,.int .i64 3]) (by simp [results,Tryz.results47,go_sem,tokV,t0,t1,t2,t3,t4,t5]) rfl ⟨rfl,?_⟩
 repeat (first | with_reducible refine Sc.setq ?_ HG.out HQ.out _ _ | with_reducible refine Sc.drewN ?_ _)
 exact (HS.out.alloc _).onto B4.out
theorem token_sign (p:Nat) (s:ByteArray) (i:Nat) (hi:i≤s.size) (hs:s.size≤4611686018427387904) (c:Int) (HC:Hid (Lx.pk s i=c)) (HL:Hid (Lx.letB c=false)) (HD:Hid (Lx.digB c=false)) (h39:c≠39) (n:Nat) (hn:n≠0∧n≤3) (HG2:Hid (Lx.signM (Lx.pk s i) (Lx.pk s (i+1)) (Lx.pk s (i+2))=n)) (w0 w:World) (h:Sc p s i w0 w) :
    Calls Tryz.prog 47 #[.pointer (some ⟨p,0,none⟩)] w (TokPost p s w0 5 ⟨#[]⟩ 0 false 0 (i+n)):=by
 have HZ:Hid (w.heap.size < (w.alloc (.cells #[.int .i64 0,.int .i64 0,.string ⟨#[]⟩,.string ⟨#[]⟩,.int .u64 0,.bool false] 45)).heap.size):=zz (by simp);have HT:=zz (TokAt.made w);have HQ:=zz (Nat.ne_of_gt h.lt);have HG:=zz h.g.size;have HS:=zz h;have B0:Hid (Sc p s i (w.alloc (.cells #[.int .i64 0,.int .i64 0,.string ⟨#[]⟩,.string ⟨#[]⟩,.int .u64 0,.bool false] 45)) (w.alloc (.cells #[.int .i64 0,.int .i64 0,.string ⟨#[]⟩,.string ⟨#[]⟩,.int .u64 0,.bool false] 45))):=zz (h.alloc _).refl;clear h;have hcb:=Lx.pk_bd s i;rw [HC.out] at hcb;go_enter Tryz.func47,Tryz.ntmps47;go_wp2_with fail;refine (peek_as p s i i 0 _ (by decide) (by omega) hi hs HC _ _ B0.out).mono ?_;rintro e x1 ⟨rfl,h1⟩;have B1:=zz h1;clear h1;go_wp2_with fail;refine (letter_as c _ hcb HL _).mono ?_;rintro e x2 ⟨rfl,rfl⟩;go_wp2_with fail;refine (digit_as c _ hcb HD _).mono ?_;rintro e x3 ⟨rfl,rfl⟩;have h39':(c==39)=false:=by simpa using h39
 have hN:=sign_any p s i hi hs _ _ B1.out;rw [HG2.out] at hN;go_wp2_with fail;refine hN.mono ?_;rintro e x4 ⟨rfl,h1⟩;have B4:=zz h1;clear h1;have hn0:((n:Int)==0)=false:=by simpa using hn.1
 have hn1:(n:Int)≤3:=by omega
 have d1:=B4.out.c1;have d2:=B4.out.f 1;have hne:w.heap.size≠p:=HQ.out;have hne2:p≠w.heap.size:=hne.symm;obtain ⟨t0,t1,t2,t3,t4,t5,tf⟩:=(HT.out.on B4.out HZ.out HQ.out).cells;go_wp2_with fail;refine bodyPost_ret (v:=.tuple #[tokV 5 ⟨#[]⟩ 0 false,.int .i64 0]) (by simp [results,Tryz.results47,go_sem,tokV,t0,t1,t2,t3,t4,t5]) rfl ⟨rfl,?_⟩
 repeat (first | with_reducible refine Sc.setq ?_ HG.out HQ.out _ _ | with_reducible refine Sc.drewN ?_ _)
 exact Sc.setI (j:=i+n) ((HS.out.alloc _).onto B4.out) (by omega)
theorem token_any (p:Nat) (s:ByteArray) (i:Nat) (hi:i≤s.size) (hs:s.size≤4611686018427387904) (w0 w:World) (h:Sc p s i w0 w) :
    Calls Tryz.prog 47 #[.pointer (some ⟨p,0,none⟩)] w (RecPost p s w0 (Lx.tokenM s i)):=by
 unfold Lx.tokenM;cases hL:Lx.letB (Lx.pk s i)
 · rw [if_neg (by decide)];cases hD:Lx.digB (Lx.pk s i)
   · rw [if_neg (by decide)];by_cases h39:Lx.pk s i=39
     · rw [if_pos h39];exact token_char p s i hi hs _ (zz rfl) (zz hL) (zz hD) (zz h39) _ _ _ _ (zz rfl) (zz rfl) (zz rfl) (zz rfl) w0 w h
     · rw [if_neg h39];by_cases h0:Lx.signM (Lx.pk s i) (Lx.pk s (i+1)) (Lx.pk s (i+2))=0
       · rw [if_pos h0];exact token_none p s i hi hs _ (zz rfl) (zz hL) (zz hD) h39 (zz h0) w0 w h
       · rw [if_neg h0];exact token_sign p s i hi hs _ (zz rfl) (zz hL) (zz hD) h39 _ ⟨h0,Lx.signM_le _ _ _⟩ (zz rfl) w0 w h
   · rw [if_pos rfl];exact token_number p s i hi hs _ (zz rfl) (zz hL) (zz hD) _ (zz rfl) w0 w h
 · rw [if_pos rfl];exact token_name p s i hi hs _ (zz rfl) (zz hL) _ _ _ (zz rfl) (zz rfl) (zz rfl) w0 w h
end Go.Proofs.YtflbkdfbjofllaaGreatDoor.L
namespace Go.Proofs.YtflbkdfbjofllaaGreatDoor.L
open Go.RowKit
structure WrAt (r:Nat) (w:World):Prop where
 a:w.heap[r]?=some (.cells #[.int .i64 0,.int .i64 0] 25 (0,0))
theorem WrAt.cells {r:Nat} {w:World} (h:WrAt r w):w.cell? ⟨r,0,none⟩=some (.int .i64 0)∧w.cell? ⟨r,1,none⟩=some (.int .i64 0)∧(∀ o,w.frozen? ⟨r,o,none⟩=false):=by
 refine ⟨?_,?_,fun o=>?_⟩ <;> simp [World.cell?,World.frozen?,h.a]
theorem infoT:(Tryz.prog.info? 45).map (fun i=>(i.zero,i.size,i.bytes))=some (some (.agg #[.int .i64 0,.int .i64 0,.string ⟨#[]⟩,.string ⟨#[]⟩,.int .u64 0,.bool false]),6,64):=by kernel_rfl
structure TInv (w:World) (s:ByteArray) (i:Nat) (v:Value) (l:List Lx.Tk) (wr:World):Prop where
 sc:wr.heap[w.heap.size+1]?=some (.cells #[.string s,.int .i64 (i:Int)] 105 (0,0))
 wrg:WrAt w.heap.size wr
 own:wr.ownsRow (w.heap.size+2) 45 6 v l.length (Lx.rowOf l)
 below:Below w.heap.size w wr
section
variable {w wr w':World} {s:ByteArray} {i j:Nat} {v:Value} {l:List Lx.Tk}
theorem TInv.scn (h:TInv w s i v l wr):Sc (w.heap.size+1) s i wr wr:=⟨grown_refl _ _,h.sc⟩
theorem TInv.lt (h:TInv w s i v l wr):w.heap.size+1 < wr.heap.size:=(Array.getElem?_eq_some_iff.1 h.sc).1
theorem TInv.ne (h:TInv w s i v l wr) {k:Nat} (hk:k < w.heap.size+2):v.ownBlock≠some k:=fun e=>by have:=(h.own.lt k e).1; omega
theorem TInv.step (h:TInv w s i v l wr) (k:Sc (w.heap.size+1) s j wr w'):TInv w s j v l w' :=
 ⟨k.a,⟨(k.other (by have:=h.lt; omega) (by omega)).trans h.wrg.a⟩,h.own.kept k.g (.inr (h.ne (by omega))),
  h.below.grown k.g (by have:=h.lt; omega) (fun q e=>by have:w.heap.size+1=q:=by simpa using e
                                                        omega)⟩
theorem TInv.alloc (h:TInv w s i v l wr) (o:Obj):TInv w s i v l (wr.alloc o):=h.step (h.scn.alloc o)
theorem TInv.drewN (h:TInv w s i v l wr) (n:Nat):TInv w s i v l (wr.drewN n):=h.step (h.scn.drewN n)
theorem TInv.drew (h:TInv w s i v l wr):TInv w s i v l wr.drew:=h.step h.scn.drew
theorem TInv.setq (h:TInv w s i v l wr) {q:Nat} (hq:w.heap.size+2≤q) (hv:v.ownBlock≠some q) (o:Nat) (u:Value):TInv w s i v l (wr.setCell ⟨q,o,none⟩ u) :=
 ⟨(Below.heap_setCell _ _ _ _ (by show w.heap.size+1≠q; omega)).trans h.sc,⟨(Below.heap_setCell _ _ _ _ (by show w.heap.size≠q; omega)).trans h.wrg.a⟩,
  ownsRow_setCell_other h.own hv u,h.below.setCell (by show w.heap.size≤q; omega) u⟩
theorem TInv.app {v':Value} {w1:World} {o:Obj} {t:Lx.Tk} (h:TInv w s i v l wr) (hg:(wr.alloc o).grownBy w1 v.ownBlock) (hown:w1.ownsRow (w.heap.size+2) 45 6 v' (l.length+1) (Lx.rowOf l++t.cells)):TInv w s i v' (l++[t]) w1:=by
 have a:=h.alloc o;refine ⟨(hg.block _ a.lt (fun e=>h.ne (by omega) e.symm)).trans a.sc,⟨(hg.block _ (by have:=a.lt; omega) (fun e=>h.ne (by omega) e.symm)).trans a.wrg.a⟩,?_,?_⟩
 · rw [Lx.rowOf_snoc,List.length_append]; exact hown
 · exact a.below.grown hg (by have:=a.lt; omega) (fun q e=>by have:=(h.own.lt q e).1; omega)
theorem TInv.form (h:TInv w s i v l wr):∃ a cap,v=.slice a l.length cap:=by
 rcases h.own.2 with ⟨h1,h2⟩ | ⟨g,cap,cur,h1,_⟩
 · exact ⟨none,0,by rw [h2]; exact h1⟩
 · exact ⟨_,_,h1⟩
end
def TokensPost (w:World) (r:Lx.TkR) (e:Ending) (w':World):Prop :=
 ∃ v,e=.returned (.tuple #[v,.agg #[.int .i64 r.code,.int .i64 r.pos]])∧w'.ownsRow w.heap.size 45 6 v r.l.length (Lx.rowOf r.l)∧Below w.heap.size w w'
theorem post_bad {w w':World} {r:Lx.TkR} {c p:Int} (hr:r=⟨[],c,p⟩) (hb:Below w.heap.size w w'):TokensPost w r (.returned (.tuple #[.slice none 0 0,.agg #[.int .i64 c,.int .i64 p]])) w':=by
 subst hr; exact ⟨_,rfl,World.ownsRow_nil _ _ _ _,hb⟩
theorem tokens_long (s:ByteArray) (h:20000 < s.size) (w:World):Calls Tryz.prog 28 #[.string s] w (TokensPost w (Lx.tokensM s)):=by
 have hr:Lx.tokensM s=⟨[],6,0⟩:=if_pos h;have HR:=zz hr;have h':(20000:Int) < (s.size:Int):=by omega
 clear hr;go_enter Tryz.func28,Tryz.ntmps28;go_wp2_with fail;refine bodyPost_ret (v:=.tuple #[.slice none 0 0,.agg #[.int .i64 6,.int .i64 0]]) (by simp [results,Tryz.results28,go_sem]) rfl (post_bad HR.out ?_)
 repeat (first | exact Below.refl _ _ | with_reducible refine Below.drew ?_ | (with_reducible refine Below.alloc ?_ ?_ _; rotate_left; first | exact Nat.le_refl _ | (simp; done) | (simp; omega)) | (with_reducible refine Below.setCell ?_ ?_ _; rotate_left; first | exact Nat.le_refl _ | (simp; done) | (simp; omega)))
theorem tokens_short (s:ByteArray) (hs:s.size≤20000) (w:World):Calls Tryz.prog 28 #[.string s] w (TokensPost w (Lx.tokensM s)):=by
 have HR:Hid (Lx.tokensM s=Lx.toksM s (s.size+1) 0 []):=zz (if_neg (by omega));have hs':¬ (20000:Int) < (s.size:Int):=by omega
 have hm:s.size≤4611686018427387904:=by omega
 obtain ⟨i0,hi,hz0,hz1,hz2⟩:=info_parts infoT;have I0:Hid (TInv w s 0 (.slice none 0 0) [] ((w.alloc (.cells #[.int .i64 0,.int .i64 0] 25)).alloc (.cells #[.string s,.int .i64 0] 105))):=by
  refine ⟨?_,⟨?_⟩,World.ownsRow_nil _ _ _ _,((Below.refl _ _).alloc (Nat.le_refl _) _).alloc (by simp) _⟩
  · have:=heap_alloc_new (w.alloc (.cells #[.int .i64 0,.int .i64 0] 25)) (.cells #[.string s,.int .i64 0] 105);rw [heap_two] at this; exact this
  · exact (Below.heap_alloc _ _ _ (by simp)).trans (heap_alloc_new w _)
 go_enter Tryz.func28,Tryz.ntmps28;go_wp2_with fail;go_loopg [4] s.size (fun g v wr=>∃ (i f:Nat) (l:List Lx.Tk),i≤s.size∧g=s.size - i∧g < f∧l.length≤6000∧Hid (Lx.tokensM s=Lx.toksM s f i l)∧Hid (TInv w s i v l wr))
 case atStart=>exact ⟨0,s.size+1,[],Nat.zero_le _,rfl,by omega,by decide,HR,I0⟩
 case round =>
  obtain ⟨i,f,l,hi1,hg,hf,hl,HE,T⟩:=hrel;clear HR I0;obtain ⟨f,rfl⟩:∃ f',f=f'+1:=⟨f - 1,by omega⟩;obtain ⟨⟨g,b⟩,hgap⟩:∃ r,Lx.gap s s.size i=r:=⟨_,rfl⟩;have hgb:=Lx.gap_bd (s:=s) s.size i hi1;rw [hgap] at hgb;have hN:=skip_any (w.heap.size+1) s i hi1 hm _ _ T.out.scn;rw [hgap] at hN;have HG:=zz hgap;clear hgap;go_wp2_with fail;refine hN.mono ?_;rintro e w1 ⟨j,he,h1,hj⟩;cases b
  · have he':e=.returned (.tuple #[.int .i64 (g:Int),.bool false]):=he;subst he';have T1:=zz (T.out.step h1);have HE2:=zz (HE.out.trans (Lx.toks_bad HG.out));clear he hN h1 hj HE;obtain ⟨t0,t1,tf⟩:=T1.out.wrg.cells;go_wp2_with fail;refine bodyPost_ret (v:=.tuple #[.slice none 0 0,.agg #[.int .i64 3,.int .i64 (g:Int)]]) (by simp [results,Tryz.results28,go_sem,t0,t1]) rfl (post_bad HE2.out ?_);exact (T1.out.below.setCell (Nat.le_refl _) _).setCell (Nat.le_refl _) _
  · have he':e=.returned (.tuple #[.int .i64 0,.bool true]):=he;subst he';obtain rfl:j=g:=hj rfl;have T1:=zz (T.out.step h1);clear he hN h1 hj T;have d1:=T1.out.scn.c1;by_cases hend:j=s.size
    · have HE2:=zz (HE.out.trans (Lx.toks_end HG.out hend));have hq:((j:Int)==(s.size:Int))=true:=by rw [hend]; exact beq_self_eq_true _
      obtain ⟨t0,t1,tf⟩:=T1.out.wrg.cells;clear HE hend;go_wp2_with fail;refine bodyPost_ret (v:=.tuple #[u4,.agg #[.int .i64 0,.int .i64 0]]) (by simp [results,Tryz.results28,go_sem,t0,t1]) rfl ?_;rw [HE2.out];have hb:Below w.heap.size w _:=(T1.out.below.setCell (p:=⟨w.heap.size,0,none⟩) (Nat.le_refl _) (.int .i64 0)).setCell (p:=⟨w.heap.size,1,none⟩) (Nat.le_refl _) (.int .i64 0);exact ⟨_,rfl,World.ownsRow.mono (ownsRow_setCell_below (ownsRow_setCell_below T1.out.own (by show w.heap.size < _; omega) _) (by show w.heap.size < _; omega) _) (by omega),hb⟩
    · have hlt:j < s.size:=by omega
      have hq:((j:Int)==(s.size:Int))=false:=beq_eq_false_iff_ne.2 (by omega);obtain ⟨r,hr⟩:∃ r,Lx.tokenM s j=r:=⟨_,rfl⟩;have hbd:=Lx.tokenM_bd hlt;have hN:=token_any (w.heap.size+1) s j hgb.2 hm _ _ T1.out.scn;rw [hr] at hbd hN;have HRR:=zz hr;clear hr;obtain ⟨C,E,K,X,V,H⟩:=r;unfold RecPost at hN;obtain ⟨hb1,hb2,hb3,hb4,hb5,hb6⟩:=hbd;simp only at hb1 hb2 hb3 hb4 hb5 hb6 hN;go_wp2_with fail;refine hN.mono ?_;rintro e w2 ⟨he,h1⟩;unfold tokV at he;subst he;have T2:=zz (T1.out.step h1);clear hN h1 d1;by_cases hC:C=0
      · subst hC;by_cases h6:l.length=6000
        · have HE2:=zz (HE.out.trans (Lx.toks_many HG.out hend (by rw [HRR.out]) h6));obtain ⟨a4,cap4,hf4⟩:=T2.out.form;rw [h6] at hf4;obtain ⟨t0,t1,tf⟩:=(T2.out.alloc (.cells #[.int .i64 K,.int .i64 0,.string ⟨#[]⟩,.string X,.int .u64 V,.bool H] 45)).wrg.cells;have T3:=zz (T2.out.alloc (.cells #[.int .i64 K,.int .i64 0,.string ⟨#[]⟩,.string X,.int .u64 V,.bool H] 45));clear HE T1 T2;subst hf4;go_wp2_with fail;refine bodyPost_ret (v:=.tuple #[.slice none 0 0,.agg #[.int .i64 6,.int .i64 (j:Int)]]) (by simp [results,Tryz.results28,go_sem,t0,t1]) rfl (post_bad HE2.out ?_);exact (T3.out.below.setCell (Nat.le_refl _) _).setCell (Nat.le_refl _) _
        · have HE2:=zz (HE.out.trans (Lx.toks_more HG.out hend (by rw [HRR.out]) h6));have hjE:j < E:=hb1 rfl;obtain ⟨a4,cap4,hf4⟩:=T2.out.form;have h6':((l.length:Int)==6000)=false:=beq_eq_false_iff_ne.2 (by omega);have hd:∀ o:Obj,(w2.alloc o).cell? ⟨w.heap.size+1,1,none⟩=some (.int .i64 (E:Int)):=fun o=>(T2.out.alloc o).scn.c1
          clear HE T1 hb1;subst hf4;have hj1:(j:Int)≤(E:Int):=by omega
          have hj2:(E:Int)≤(s.size:Int):=by omega
          go_upto_region 16 with fail
          go_cut [] (fun wx=>TInv w s E (.slice a4 l.length cap4) l wx∧TokG w2.heap.size K (j:Int) (s.extract j E) X V H wx)
          case first =>
           go_region
           all_goals (go_wp2_with fail; go_meet)
           all_goals exact ⟨(T2.out.alloc _).drew,⟨heap_alloc_new w2 _⟩⟩
          case rest =>
           obtain ⟨T5,G5⟩:=hcut;have T5:=zz T5;obtain ⟨g0,g1,g2,g3,g4,g5,gf⟩:=G5.cells;clear hd hj1 hj2 h6' G5;have hsz:=T5.out.lt;go_wp2_with (at_builtin; refine wpList_append_own _ rfl _ _ 41 rfl (w.heap.size+2) 45 i0 (.agg #[.int .i64 0,.int .i64 0,.string ⟨#[]⟩,.string ⟨#[]⟩,.int .u64 0,.bool false]) 6 64 Tryz.underlying41 hi hz0 hz1 hz2 rfl (by decide) _ _ _ rfl (T5.out.own.alloc _) ⟨_,0,none⟩ 1 1 [.int .i64 K,.int .i64 (j:Int),.string (s.extract j E),.string X,.int .u64 V,.bool H] rfl rfl ?a1 ?b1 (by unfold maxLen; omega) (by omega) (by simp; omega) ?_)
           case a1 =>
            intro q u hq
            match q,hq with
            | 0,hq=>simp at hq; subst hq; simp [Addr.add]
            | 1,hq=>simp at hq; subst hq; simp [Addr.add]
            | 2,hq=>simp at hq; subst hq; simp [Addr.add]
            | 3,hq=>simp at hq; subst hq; simp [Addr.add]
            | 4,hq=>simp at hq; subst hq; simp [Addr.add]
            | 5,hq=>simp at hq; subst hq; simp [Addr.add]
           case b1=>intro u hu; simp at hu; rcases hu with rfl | rfl | rfl | rfl | rfl | rfl <;> rfl
           intro v' w4 hown' hgrow _;have T6:=zz (T5.out.app (t:=⟨K,j,s.extract j E,X,V,H⟩) hgrow hown');clear hgrow hown' g0 g1 g2 g3 g4 g5 gf;go_wp2;go_roundg (s.size - E)
           case rel =>
            refine ⟨E,f,l++[⟨K,j,s.extract j E,X,V,H⟩],hb2,rfl,by omega,by rw [List.length_append]; simp; omega,?_,T6⟩;rw [HE2.out,HRR.out]; exact zz rfl
           case measure=>omega
      · have HE2:=zz (HE.out.trans (Lx.toks_wrong HG.out hend (by rw [HRR.out]; exact hC)));rw [HRR.out] at HE2;have q1:(C==0)=false:=beq_eq_false_iff_ne.2 hC;have q2:(C != 0)=true:=bne_iff_ne.2 hC;have T3:=zz (T2.out.alloc (.cells #[.int .i64 K,.int .i64 0,.string ⟨#[]⟩,.string X,.int .u64 V,.bool H] 45));obtain ⟨t0,t1,tf⟩:=T3.out.wrg.cells;clear HE T1 T2 hb1;go_wp2_with fail;refine bodyPost_ret (v:=.tuple #[.slice none 0 0,.agg #[.int .i64 C,.int .i64 (j:Int)]]) (by simp [results,Tryz.results28,go_sem,t0,t1]) rfl (post_bad HE2.out ?_);exact (T3.out.below.setCell (Nat.le_refl _) _).setCell (Nat.le_refl _) _
end Go.Proofs.YtflbkdfbjofllaaGreatDoor.L
namespace Go.Proofs.YtflbkdfbjofllaaGreatDoor
open Go.RowKit Lx
structure LI (w:World) (B:Nat) (sa:Option Addr) (sc n:Nat) (av:List (Option Addr)) (is:List Sy.It):Prop where
 nn:n=av.length
 len:av.length=is.length
 sub:∀ (i:Nat) (a:Option Addr) (e:Sy.It),av[i]?=some a→is[i]?=some e→ItD w (fun q=>B≤q∧(Value.slice sa n sc).ownBlock≠some q) a e
section
variable {w w' v2 v3:World} {K:Pk} {τ:Sy.St} {B:Nat} {sa:Option Addr} {sc n:Nat} {av:List (Option Addr)} {is:List Sy.It}
theorem LI.bare:LI w B none 0 0 [] []:=⟨rfl,rfl,fun i a s ha=>by cases ha⟩
theorem LI.atI (h:LI w B sa sc n av is) (hk:AtI w w' K τ) (hB:K.B≤B):LI w' B sa sc n av is :=
 ⟨h.nn,h.len,fun i a e ha he=>(h.sub i a e ha he).keep hk.k (fun q e2=>.inl (fun h2=>by have:=hk.p.ord; have:=h2.1; rcases e2 with e2 | e2 <;> omega))⟩
theorem LI.no (h:LI w B sa sc n av is) (hk:Keeps No w w'):LI w' B sa sc n av is:=⟨h.nn,h.len,fun i a e ha he=>(h.sub i a e ha he).keep hk (fun q e=>e.elim)⟩
theorem LI.push {g' cap:Nat} {a2:Option Addr} {s2:Sy.It} (h:LI v2 B sa sc n av is) (hk:Keeps (fun q=>(Value.slice sa n sc).ownBlock=some q) v2 v3)
    (hg:(Value.slice sa n sc).ownBlock=some g'∨v2.heap.size≤g') (h2:ItD v2 (fun q=>B≤q∧(Value.slice sa n sc).ownBlock≠some q) a2 s2) :
    LI v3 B (some ⟨g',0,none⟩) cap (n+1) (av++[a2]) (is++[s2]):=by
 have l1:∀ q,q < v2.heap.size→(B≤q∧(Value.slice sa n sc).ownBlock≠some q)→(B≤q∧(Value.slice sa n sc).ownBlock≠some q)∧q≠g':=fun q hq hd=>⟨hd,fun e=>by
     rcases hg with hg | hg
     · exact hd.2 (by rw [e]; exact hg)
     · omega⟩
 have l2:∀ q,(Value.slice sa n sc).ownBlock=some q→¬ ((B≤q∧(Value.slice sa n sc).ownBlock≠some q)∧q≠g')∨v2.heap.size≤q:=fun q e=>.inl (fun hd=>hd.1.2 e)
 have l4:∀ q,(B≤q∧(Value.slice sa n sc).ownBlock≠some q)∧q≠g'→(B≤q∧(Value.slice (some ⟨g',0,none⟩) (n+1) cap).ownBlock≠some q):=fun q hd=>⟨hd.1.1,fun e=>by
     have e1:g'=q:=by injection e
     exact hd.2 e1.symm⟩
 have oneS:∀ a e,ItD v2 (fun q=>B≤q∧(Value.slice sa n sc).ownBlock≠some q) a e→ItD v3 (fun q=>B≤q∧(Value.slice (some ⟨g',0,none⟩) (n+1) cap).ownBlock≠some q) a e:=fun a e hx =>
  ((hx.mono l1).keep hk l2).mono (fun q _ hd=>l4 q hd)
 refine ⟨by rw [List.length_append,← h.nn]; rfl,by rw [List.length_append,List.length_append,h.len]; rfl,fun i a e ha he=>?_⟩;by_cases hi:i < av.length
 · rw [List.getElem?_append_left hi] at ha;rw [List.getElem?_append_left (by rw [← h.len]; exact hi)] at he;exact oneS a e (h.sub i a e ha he)
 · rw [List.getElem?_append_right (by omega)] at ha;rw [List.getElem?_append_right (by rw [← h.len]; omega),← h.len] at he;cases hj:i - av.length with
   | zero =>
     rw [hj] at ha he;obtain rfl:a2=a:=by simpa using ha
     obtain rfl:s2=e:=by simpa using he
     exact oneS _ _ h2
   | succ j=>rw [hj] at ha; cases ha
end
theorem infoPI:(Tryz.prog.info? 58).map (fun i=>(i.zero,i.size,i.bytes))=some (some (.pointer none),1,8):=by kernel_rfl
theorem wpList_appI (w:World) {ops:Array Oper} {rest:List Oper} {o:Oper} {a:Act} {Q:Exit→Act→World→Prop} (hgd:o.guard=none) (s x:Operand)
    (ho:o.op=.call { callee:=.builtin .append,args:=#[s,x],argTypes:=#[54,54] })
    (B:Nat) (v:Value) (n:Nat) (xs:List Value) (u:Option Addr) (q:Nat) (hs:a.eval s=v) (hown:w.ownsRow B 58 1 v n xs) (hx:a.eval x=.slice (some ⟨q,0,none⟩) 1 1) (hq:w.heap[q]?=some (.cells #[.pointer u] 58 (0,0)))
    (hn:n≤999999) (hB:B≤w.heap.size)
    (h:∀ g' cap w',w'.ownsRow B 58 1 (.slice (some ⟨g',0,none⟩) (n+1) cap) (n+1) (xs++[.pointer u])→w.grownBy w' v.ownBlock→(v.ownBlock=some g'∨w.heap.size≤g')→wpList Tryz.prog ops Q rest (a.put o.dst (.slice (some ⟨g',0,none⟩) (n+1) cap)) w'):wpList Tryz.prog ops Q (o::rest) a w:=by
 obtain ⟨i0,hi,hz0,hz1,hz2⟩:=info_parts infoPI;refine wpList_append_lies w hgd s x _ ho B 58 i0 (.pointer none) 1 8 Tryz.underlying54 hi hz0 hz1 hz2 rfl (by decide) v n xs hs hown ⟨q,0,none⟩ 1 1 [.pointer u] hx rfl (fun j y hy=>?_) (fun y hy=>by simp at hy; subst hy; rfl) (by decide) (by unfold maxLen; omega) (by omega) hB _ rfl (fun g' cap w' k1 k2 k3 _=>h g' cap w' k1 k2 (k3.imp id (fun e=>by omega)));cases j with
 | zero=>obtain rfl:Value.pointer u=y:=by simpa using hy
         have e:(⟨q,0,none⟩:Addr).add 0=⟨q,0,none⟩:=by unfold Addr.add; split <;> simp_all
         rw [e]; unfold World.cell?; simp only; rw [hq]; rfl
 | succ j=>cases hy
def Stop (p:Prop):Prop:=p
theorem stop_here {p:Prop} (h:Stop p):p:=h
theorem tok_cell:∀ (l:List Tk) (i:Nat) (t:Tk) (j:Nat) (v:Value),l[i]?=some t→t.cells[j]?=some v→(Lx.rowOf l)[i * 6+j]?=some v
 | [],i,y,j,v,h,_=>by cases h
 | a::t,0,y,j,v,h,hj=>by
   injection h with h; subst h;have hjl:j < a.cells.length:=(List.getElem?_eq_some_iff.1 hj).1;unfold Lx.rowOf;rw [Nat.zero_mul,Nat.zero_add,List.flatMap_cons,List.getElem?_append_left hjl];exact hj
 | a::t,i+1,y,j,v,h,hj=>by
   have e:a.cells.length=6:=rfl;unfold Lx.rowOf;rw [List.flatMap_cons,List.getElem?_append_right (by omega),e,show (i+1) * 6+j - 6=i * 6+j by omega];exact tok_cell t i y j v h hj
theorem tokens_any (s:ByteArray) (w:World):Calls Tryz.prog 28 #[.string s] w (L.TokensPost w (Lx.tokensM s)):=by
 by_cases h:20000 < s.size
 · exact L.tokens_long s h w
 · exact L.tokens_short s (by omega) w
def ParsePost (w:World) (r:Sy.PR) (e:Ending) (w':World):Prop :=
 ∃ (sa:Option Addr) (sc:Nat) (av:List (Option Addr)),e=.returned (.tuple #[.slice sa av.length sc,.agg #[.int .i64 r.code,.int .i64 r.at_]])∧Keeps No w w' ∧
   RwD w' (fun q=>q < w'.heap.size) 58 1 (.slice sa av.length sc) av.length (ptrs av)∧av.length=r.items.length ∧
   (∀ (k:Nat) (a:Option Addr) (i:Sy.It),av[k]?=some a→r.items[k]?=some i→ItD w' (fun q=>q < w'.heap.size) a i)
theorem parse_none {w w':World} {c p:Int} (hk:Keeps No w w'):ParsePost w ⟨[],c,p⟩ (.returned (.tuple #[.slice none 0 0,.agg #[.int .i64 c,.int .i64 p]])) w' :=
 ⟨none,0,[],rfl,hk,RwD.nil _ _ _ _ 0,rfl,fun k a i h=>by cases h⟩
theorem parse_any (s:ByteArray) (w:World) (hl:LaidP w) (hp:Sy.parseOk s=true):Calls Tryz.prog 21 #[.string s] w (ParsePost w (Sy.parseM s)):=by
 have HL:=zz hl;unfold Sy.parseOk at hp;rw [Bool.and_eq_true,Bool.and_eq_true,decide_eq_true_eq] at hp;obtain ⟨⟨hsz,hln⟩,htk,hpp⟩:=hp;have HTK:=zz (tokens_any s);obtain ⟨tr,htr⟩:∃ r,tokensM s=r:=⟨_,rfl⟩;obtain ⟨l,tc,tp⟩:=tr;have HPM:Hid (Sy.parseM s=if tc≠0 then ⟨[],tc,tp⟩ else if (Sy.itemsOf s).2.code≠0 then ⟨[],(Sy.itemsOf s).2.code,(Sy.itemsOf s).2.wat⟩ else if Sy.depthM (Sy.itemsOf s).1 > 40 then ⟨[],5,0⟩ else ⟨(Sy.itemsOf s).1,0,0⟩):=zz (by
  unfold Sy.parseM Sy.itemsOf; simp only [htr])
 have HIO:Hid (Sy.itemsOf s=Sy.itemsM ⟨l,s.size⟩ (l.length+1) ⟨0,[],0,0⟩ []):=zz (by unfold Sy.itemsOf; rw [htr]);rw [htr] at HTK hln htk hpp;simp only at hln htk hpp;have HT:=zz htk;have HLN:=zz hln;have HPP:=zz hpp;have HSZ:=zz hsz;obtain ⟨ss,hss⟩:∃ n,s.size=n:=⟨_,rfl⟩;clear hl htk hpp htr hln;rw [hss] at hsz;go_enter Tryz.func21,Tryz.ntmps21;go_upto_region 1 with fail
 obtain ⟨w1,hw1⟩:∃ W,w.alloc (.cells #[.int .i64 0,.int .i64 0] 25)=W:=⟨_,rfl⟩;obtain ⟨R,hRR⟩:∃ R,w.heap.size=R:=⟨_,rfl⟩;have r1:w1.heap[R]?=some (.cells #[.int .i64 0,.int .i64 0] 25 (0,0)):=by rw [← hw1,← hRR]; exact heap_alloc_new _ _
 have HK1:Hid (Keeps No w w1):=zz (by rw [← hw1]; exact (Keeps.refl _ _).alloc _);have HRW:Hid (w.heap.size≤R):=zz (by omega);rw [hw1,hRR];have HR1:=zz r1;clear hw1 hRR r1;go_wp2_with fail;refine (HTK.out w1).mono ?_;rintro e w2 ⟨v,rfl,hown,hbel⟩;simp only at hown ⊢;have hk2:Keeps No w1 w2:=Keeps.of_below hbel;have HK2:Hid (Keeps No w w2):=zz (HK1.out.trans hk2 (fun _ _ e=>e));have HR2:Hid (w2.heap[R]?=some (.cells #[.int .i64 0,.int .i64 0] 25 (0,0))):=zz ((hk2.block _ (Array.getElem?_eq_some_iff.1 HR1.out).1 (fun e=>e)).trans HR1.out);have HOW:=zz hown;obtain ⟨ta,tcap,rfl,hta⟩:=own_form hown;have HTA:=zz hta;clear hown hbel hk2 hta HK1 HR1 HTK;go_upto_region 2 with fail
 have hv:(w2.alloc (.cells #[.int .i64 tc,.int .i64 tp] 25)).heap[w2.heap.size]?=some (.cells #[.int .i64 tc,.int .i64 tp] 25 (0,0)):=heap_alloc_new _ _;have hk3:Keeps No w2 (w2.alloc (.cells #[.int .i64 tc,.int .i64 tp] 25)):=(Keeps.refl _ _).alloc _;generalize w2.alloc (.cells #[.int .i64 tc,.int .i64 tp] 25)=w3 at hv hk3 ⊢;obtain ⟨R5,hR5⟩:∃ q,w2.heap.size=q:=⟨_,rfl⟩;have HRN:Hid (R5≠R):=zz (by have:=(Array.getElem?_eq_some_iff.1 HR2.out).1; omega);rw [hR5] at hv ⊢;have HK3:Hid (Keeps No w w3):=zz (HK2.out.trans hk3 (fun _ _ e=>e));have HR3:Hid (w3.heap[R]?=some (.cells #[.int .i64 0,.int .i64 0] 25 (0,0))):=zz ((hk3.block _ (Array.getElem?_eq_some_iff.1 HR2.out).1 (fun e=>e)).trans HR2.out);have HOW3:Hid (w3.ownsRow w1.heap.size 45 6 (.slice ta l.length tcap) l.length (Lx.rowOf l)):=zz (own_kept HOW.out (fun q hq=>hk3.block q (own_ltb HOW.out hq) (fun e=>e)));have HV3:=zz hv;have d0:w3.cell? ⟨R5,0,none⟩=some (.int .i64 tc):=by rw [cell_of_row w3 R5 0 _ _ _ hv]; rfl
 have d1:w3.cell? ⟨R5,1,none⟩=some (.int .i64 tp):=by rw [cell_of_row w3 R5 1 _ _ _ hv]; rfl
 clear hv hk3 hR5 HOW HR2;by_cases hc:tc=0
 · subst hc;have HPZ:Hid (Sy.parseM s=if (Sy.itemsOf s).2.code≠0 then ⟨[],(Sy.itemsOf s).2.code,(Sy.itemsOf s).2.wat⟩ else if Sy.depthM (Sy.itemsOf s).1 > 40 then ⟨[],5,0⟩ else ⟨(Sy.itemsOf s).1,0,0⟩):=zz (by rw [HPM.out,if_neg (by decide)]);clear d1 HPM;have HM4:Hid (∀ (o:Obj),Keeps No w ((w3.alloc (.map #[] 0)).alloc o)):=zz (fun o=>(HK3.out.alloc _).alloc _);have hmm:=@run_makeMap Tryz.prog;go_upto_region 5 with fail
   clear hmm;have hpb:((w3.alloc (.map #[] 0)).alloc (.cells #[.slice ta l.length tcap,.int .i64 0,.int .i64 (ss:Int),.map (some w3.heap.size),.int .i64 0,.int .i64 0] 83)).heap[w3.heap.size+1]?=some (.cells #[.slice ta l.length tcap,.int .i64 0,.int .i64 (ss:Int),.map (some w3.heap.size),.int .i64 0,.int .i64 0] 83 (0,0)):=by
    rw [show w3.heap.size+1=(w3.alloc (.map #[] 0)).heap.size by simp]; exact heap_alloc_new _ _
   have hmb:=(Names.made w3).block (Below.heap_alloc (w3.alloc (.map #[] 0)) (.cells #[.slice ta l.length tcap,.int .i64 0,.int .i64 (ss:Int),.map (some w3.heap.size),.int .i64 0,.int .i64 0] 83) w3.heap.size (by simp));have hk4:=((Keeps.refl No w3).alloc (.map #[] 0)).alloc (.cells #[.slice ta l.length tcap,.int .i64 0,.int .i64 (ss:Int),.map (some w3.heap.size),.int .i64 0,.int .i64 0] 83);have hsz4:((w3.alloc (.map #[] 0)).alloc (.cells #[.slice ta l.length tcap,.int .i64 0,.int .i64 (ss:Int),.map (some w3.heap.size),.int .i64 0,.int .i64 0] 83)).heap.size=w3.heap.size+2:=by simp
   generalize (w3.alloc (.map #[] 0)).alloc (.cells #[.slice ta l.length tcap,.int .i64 0,.int .i64 (ss:Int),.map (some w3.heap.size),.int .i64 0,.int .i64 0] 83)=w4 at hpb hmb hk4 hsz4 ⊢;clear HM4 d0;obtain ⟨K,hK⟩:∃ K:Pk,K=⟨w3.heap.size+1,w3.heap.size,w3.heap.size+2,ta,tcap,⟨l,ss⟩⟩:=⟨_,rfl⟩;have hT:=HT.out;have hPS:PS w4 K ⟨0,[],0,0⟩:=by
    subst hK;refine ⟨hpb,fun i t hi=>?_,hmb,Nat.zero_le _,HLN.out,hsz,fun t ht=>?_,⟨by show w3.heap.size+1≠w3.heap.size; omega,by show w3.heap.size+1 < w3.heap.size+2; omega,by show w3.heap.size < w3.heap.size+2; omega,by show w3.heap.size+2≤w4.heap.size; omega⟩⟩
    · have hi':i < l.length:=(List.getElem?_eq_some_iff.1 hi).1;obtain ⟨g,hg⟩:=HTA.out (by omega);subst hg;have hgl:g < w3.heap.size:=own_ltb HOW3.out rfl;refine ⟨g,rfl,⟨by show g≠w3.heap.size+1; omega,by show g < w3.heap.size+2; omega⟩,fun j v hj=>?_⟩;have e:=HOW3.out.cells (g:=g) rfl (i * 6+j) v (tok_cell l i t j v hi hj);rw [Lib.add_plain,Nat.zero_add] at e;exact hk4.cell0 e
    · have e:=List.all_eq_true.1 hT t ht;unfold Sy.tkOk at e;rw [decide_eq_true_eq] at e;exact e
   have HPS:=zz hPS;have eP:K.P=w3.heap.size+1:=by rw [hK]
   have eB:K.B=w3.heap.size+2:=by rw [hK]
   have eC:K.C=⟨l,s.size⟩:=by rw [hK,hss]
   have eTA:K.ta=ta:=by rw [hK]
   have eTC:K.tc=tcap:=by rw [hK]
   have HK4:Hid (Keeps No w w4):=zz (HK3.out.trans hk4 (fun _ _ e=>e));have HR4:Hid (w4.heap[R]?=some (.cells #[.int .i64 0,.int .i64 0] 25 (0,0))):=zz ((hk4.block _ (Array.getElem?_eq_some_iff.1 HR3.out).1 (fun e=>e)).trans HR3.out);have HBW:Hid (K.B≤w4.heap.size∧w.heap.size≤K.B∧R≠K.P∧R≠K.MB∧R < K.B∧w.heap.size≤K.P∧w.heap.size≤K.MB):=zz (by
    have h1:=HK3.out.size;have h2:=(Array.getElem?_eq_some_iff.1 HR3.out).1;have eM:K.MB=w3.heap.size:=by rw [hK]
    refine ⟨?_,?_,?_,?_,?_,?_,?_⟩ <;> omega)
   have HIK:Hid (Sy.itemsOf s=Sy.itemsM K.C (K.C.T.length+1) ⟨0,[],0,0⟩ []):=zz (by rw [HIO.out,eC]);obtain ⟨rL,hrL⟩:∃ r,Sy.itemsOf s=r:=⟨_,rfl⟩;rw [hrL] at HIK HPZ HPP;obtain ⟨iL,χL⟩:=rL;simp only at HPZ HPP;have hKn:l.length=K.C.T.length:=by rw [eC]
   rw [← eP];have HB40:Hid (K.B=w4.heap.size):=zz (by omega);clear hpb hmb hk4 hsz4 hPS hT HR3 HOW3 HV3 HTA HIO hrL HT;clear hK;have HLW:=zz (HL.out.no HK4.out);have HN6:Hid (K.C.T.length≤6000):=zz (by have:=HLN.out; omega);have HB4:Hid (K.B=w4.heap.size):=HB40;clear eP eC eTA eTC hKn eB;go_wp2_with fail;go_loopg [7] (rem K ⟨0,[],0,0⟩) (fun m v wr=>∃ (g n:Nat) (sa:Option Addr) (sc:Nat) (av:List (Option Addr)) (is:List Sy.It) (χ:Sy.St),v=.slice sa n sc∧m=rem K χ∧Hid (Sy.itemsM K.C g χ is=(iL,χL)∧rem K χ+1≤g∧n+rem K χ≤6000∧χ.types.length+rem K χ≤6000)∧Hid (AtI w4 wr K χ)∧Hid (wr.ownsRow K.B 58 1 (.slice sa n sc) n (ptrs av))∧Hid (χ.code=0→LI wr K.B sa sc n av is))
   case atStart=>exact ⟨K.C.T.length+1,0,none,0,[],[],⟨0,[],0,0⟩,rfl,rfl,zz ⟨HIK.out.symm,by unfold rem; omega,by have:=HN6.out; unfold rem; omega,by have:=HN6.out; unfold rem; simp; exact this⟩,zz ⟨HPS.out,Keeps.refl _ _⟩,zz (World.ownsRow_nil _ _ _ _),zz (fun _=>LI.bare)⟩
   case round =>
    obtain ⟨g,n,sa,sc,av,is,χ,rfl,hg,HE,HAR,HOR,HLR⟩:=hrel;obtain ⟨g,rfl⟩:∃ q,g=q+1:=⟨g - 1,by have:=HE.out.2.1; omega⟩;obtain ⟨tn,htn⟩:∃ q,K.C.T.length=q:=⟨_,rfl⟩;have y0:wr.cell? ⟨K.P,0,none⟩=some (.slice K.ta tn K.tc):=by rw [← htn]; exact HAR.out.p.c (j:=0) rfl
    have y1:wr.cell? ⟨K.P,1,none⟩=some (.int .i64 (χ.at_:Int)):=HAR.out.p.c (j:=1) rfl;by_cases hlt:χ.at_ < K.C.T.length
    · have hlt1:(χ.at_:Int) < (tn:Int):=by omega
      obtain ⟨hgo,hmi⟩:=Sy.item_mi (C:=K.C) hlt;obtain ⟨r1,hr1⟩:∃ r,Sy.itemM K.C χ=r:=⟨_,rfl⟩;have HCI:Hid (Calls Tryz.prog 29 #[.pointer (some ⟨K.P,0,none⟩)] wr (ItPost wr K (Sy.itemM K.C χ))):=zz (item_any K χ wr HAR.out.p hlt (by have:=HE.out.2.2.2; omega));have HE2:Hid (Sy.itemsM K.C g r1.2 (is++[r1.1])=(iL,χL)∧rem K r1.2+1≤g∧n+1+rem K r1.2≤6000∧r1.2.types.length+rem K r1.2≤6000):=zz (by
       obtain ⟨h6,h7,h8,h9⟩:=HE.out;unfold Sy.itemsM at h6;rw [if_pos hlt] at h6;simp only [hr1] at h6;rw [hr1] at hgo hmi;have h10:=hmi.ty;have h11:=hmi.le;unfold rem at h7 h8 h9 ⊢;exact ⟨h6,by omega,by omega,by omega⟩)
      have HMS:Hid (rem K r1.2 < rem K χ):=zz (by
       rw [hr1] at hgo hmi;have h11:=hmi.le;unfold rem; omega)
      have HCD:Hid (r1.2.code=0→χ.code=0):=zz (by rw [hr1] at hmi; exact hmi.code);rw [hr1] at HCI;obtain ⟨i1,χ1⟩:=r1;simp only at HE2 HMS HCD HCI;clear hgo hmi hr1 htn hlt;go_wp2_with fail;refine HCI.out.mono ?_;rintro e w5 ⟨a1,rfl,hat,hit⟩;simp only at hat hit;have HA5:=zz (HAR.out.trans hat);have HO5:Hid (w5.ownsRow K.B 58 1 (.slice sa n sc) n (ptrs av)):=zz (own_kept HOR.out (fun q hq=>hat.k.block q (own_ltb HOR.out hq) (fun e=>by
       have h1:=own_lo HOR.out q hq;have h2:=HPS.out.ord;rcases e with e | e <;> omega)))
      have HL5:Hid (χ1.code=0→LI w5 K.B sa sc n av is):=zz (fun hc=>(HLR.out (HCD.out hc)).atI hat (Nat.le_refl _));have HI5:Hid (χ1.code=0→ItD w5 (fun q=>K.B≤q∧(Value.slice sa n sc).ownBlock≠some q) a1 i1):=zz (fun hc=>ItD.mono (hit hc) (fun q _ hd=>by
       have h1:wr.heap.size≤q:=hd;refine ⟨by have:=HAR.out.p.ord.2.2.2; omega,fun e=>?_⟩;have:=own_ltb HOR.out e;omega))
      clear hat hit HLR HOR y0 y1;go_wp2_with (at_builtin; refine stop_here ?_);unfold Stop;have hk6:Keeps No w5 (w5.alloc (.cells #[.pointer a1] 58)):=(Keeps.refl _ _).alloc _;have hq6:(w5.alloc (.cells #[.pointer a1] 58)).heap[w5.heap.size]?=some (.cells #[.pointer a1] 58 (0,0)):=heap_alloc_new _ _;generalize w5.alloc (.cells #[.pointer a1] 58)=w6 at hk6 hq6 ⊢;have HA6:=zz (HA5.out.no hk6);have HO6:Hid (w6.ownsRow K.B 58 1 (.slice sa n sc) n (ptrs av)):=zz (own_kept HO5.out (fun q hq=>hk6.block q (own_ltb HO5.out hq) (fun e=>e)));have HL6:Hid (χ1.code=0→LI w6 K.B sa sc n av is∧ItD w6 (fun q=>K.B≤q∧(Value.slice sa n sc).ownBlock≠some q) a1 i1):=zz (fun hc=>⟨(HL5.out hc).no hk6,(HI5.out hc).keep hk6 (fun q e=>e.elim)⟩);have HQ6:=zz hq6;clear hk6 hq6 HL5 HI5 HO5 HA5;go_wp2_with (at_builtin; refine wpList_appI _ rfl (.tmp 28) (.tmp 30) rfl K.B (.slice sa n sc) n (ptrs av) a1 w5.heap.size rfl HO6.out rfl HQ6.out (by have:=HE.out.2.2.1; omega) HA6.out.p.ord.2.2.2 ?_);intro g' cap' w7 ho7 hg7 hgo;have hk7:Keeps (fun q=>(Value.slice sa n sc).ownBlock=some q) w6 w7:=(Keeps.refl _ _).grown hg7 (fun q e=>.inl e);have HA7:Hid (AtI w4 w7 K χ1):=zz ⟨HA6.out.p.keepR hk7 (fun q e=>own_lo HO6.out q e),HA6.out.k.trans hk7 (fun q hq e=>by have:=own_lo HO6.out q e; have:=HB4.out; omega)⟩;have HO7:Hid (w7.ownsRow K.B 58 1 (.slice (some ⟨g',0,none⟩) (n+1) cap') (n+1) (ptrs (av++[a1]))):=zz (by
       have e:ptrs (av++[a1])=ptrs av++[.pointer a1]:=by unfold ptrs; rw [List.map_append]; rfl
       rw [e]; exact ho7)
      have HL7:Hid (χ1.code=0→LI w7 K.B (some ⟨g',0,none⟩) cap' (n+1) (av++[a1]) (is++[i1])):=zz (fun hc=>(HL6.out hc).1.push hk7 hgo (HL6.out hc).2);clear ho7 hg7 hgo hk7;go_wp2_with fail;go_roundg (rem K χ1)
      case rel=>exact ⟨g,n+1,some ⟨g',0,none⟩,cap',av++[a1],is++[i1],χ1,rfl,rfl,HE2,HA7,HO7,HL7⟩
      case measure=>rw [hg]; exact HMS.out
    · have hlt1:¬ (χ.at_:Int) < (tn:Int):=by omega
      obtain ⟨e1,e2⟩:is=iL∧χ=χL:=by
       have h6:=HE.out.1;unfold Sy.itemsM at h6;rw [if_neg hlt] at h6;exact ⟨by injection h6,by injection h6⟩
      subst e1 e2;have HLX:Hid (LaidP wr):=zz (HLW.out.keep HAR.out.k (fun e=>by
       have h1:=HL.out.blk;have h2:=HBW.out;rcases e with e | e <;> omega))
      have HKX:Hid (Keeps No w wr):=zz (HK4.out.trans HAR.out.k (fun q hq e=>by
       have h2:=HBW.out;rcases e with e | e <;> omega))
      have HRX:Hid (wr.heap[R]?=some (.cells #[.int .i64 0,.int .i64 0] 25 (0,0))):=zz ((HAR.out.k.block _ (Array.getElem?_eq_some_iff.1 HR4.out).1 (fun e=>by
       have h2:=HBW.out;rcases e with e | e <;> omega)).trans HR4.out)
      have y4:wr.cell? ⟨K.P,4,none⟩=some (.int .i64 χ.code):=HAR.out.p.c (j:=4) rfl;clear hlt htn HIK;by_cases hc:χ.code=0
      · obtain ⟨cc,hcc⟩:∃ c,χ.code=c:=⟨_,rfl⟩;have HLI:=zz (HLR.out hc);obtain rfl:=HLI.out.nn;have hpp:=HPP.out;rw [if_neg (by decide),if_neg (fun h=>h hc),Bool.and_eq_true,Bool.and_eq_true,List.all_eq_true,List.all_eq_true] at hpp;obtain ⟨hok,hsz1,-⟩:=hpp;have HDP:=zz (fun d (hd:Sy.depthM is=d)=>hd ▸ depth_any wr sa sc av is HLX.out ((RwD.of HOR.out).mono (fun q hq _=>hq)) HLI.out.len (fun k a i ha hi=>(HLI.out.sub k a i ha hi).mono (fun q hq _=>hq)) hok (fun i hi x h1 h2=>by
         have e:=(Sy.it_sim i (x:=x) (y:=⟨Sy.nt,0,0,true⟩) ⟨h1,h2⟩ (hok i hi)).1;rw [e];have e2:=hsz1 i hi;rw [decide_eq_true_eq] at e2;exact e2))
        have HPX:Hid (Sy.parseM s=if Sy.depthM is > 40 then ⟨[],5,0⟩ else ⟨is,0,0⟩):=zz (by rw [HPZ.out,if_neg (fun h=>h hc)]);obtain ⟨d,hd⟩:∃ d,Sy.depthM is=d:=⟨_,rfl⟩;have HCD:=zz (HDP.out d hd);rw [hd] at HPX;rw [hc] at y4;have q0:((0:Int) != 0)=false:=rfl;clear hc hcc hok hsz1 hd HDP HLR HE hg HPP HPZ;go_wp2_with fail;refine HCD.out.mono ?_;rintro e w9 ⟨rfl,hk⟩;have HR9:Hid (w9.heap[R]?=some (.cells #[.int .i64 0,.int .i64 0] 25 (0,0))):=zz ((hk.block _ (Array.getElem?_eq_some_iff.1 HRX.out).1 (fun e=>e)).trans HRX.out);have HK9:Hid (Keeps No w w9):=zz (HKX.out.trans hk (fun _ _ e=>e));have HO9:Hid (RwD w9 (fun q=>K.B≤q) 58 1 (.slice sa av.length sc) av.length (ptrs av)):=zz ((RwD.of HOR.out).keep hk (fun q e=>e.elim));have HI9:Hid (∀ (k:Nat) (a:Option Addr) (i:Sy.It),av[k]?=some a→is[k]?=some i→ItD w9 (fun q=>K.B≤q) a i):=zz (fun k a i ha hi=>((HLI.out.sub k a i ha hi).mono (fun q _ hd=>hd.1)).keep hk (fun q e=>e.elim));have HRB:Hid (R < K.B):=zz (by have:=HBW.out; omega);have x0:w9.cell? ⟨R,0,none⟩=some (.int .i64 0):=by rw [cell_of_row w9 R 0 _ _ _ HR9.out]; rfl
        have x1:w9.cell? ⟨R,1,none⟩=some (.int .i64 0):=by rw [cell_of_row w9 R 1 _ _ _ HR9.out]; rfl
        have z0:w9.frozen? ⟨R,0,none⟩=false:=frozen_of_row w9 R 0 _ _ HR9.out;have z1:w9.frozen? ⟨R,1,none⟩=false:=frozen_of_row w9 R 1 _ _ HR9.out;have HKE:Hid (∀ (a b:Value),Keeps No w ((w9.setCell ⟨R,0,none⟩ a).setCell ⟨R,1,none⟩ b)):=zz (fun a b=>(HK9.out.setCell (p:=⟨R,0,none⟩) (.inr HRW.out) a).setCell (p:=⟨R,1,none⟩) (.inr HRW.out) b);have HKF:Hid (∀ (a b:Value),Keeps (fun q=>q=R) w9 ((w9.setCell ⟨R,0,none⟩ a).setCell ⟨R,1,none⟩ b)):=zz (fun a b=>((Keeps.refl (fun q=>q=R) w9).setCell (p:=⟨R,0,none⟩) (.inl rfl) a).setCell (p:=⟨R,1,none⟩) (.inl rfl) b);clear hk HOR HLX HKX HRX y0 y1 y4;by_cases h40:d > 40
        · have HPE:Hid (Sy.parseM s=⟨[],5,0⟩):=zz (by rw [HPX.out,if_pos h40]);have h41:40 < d:=h40;go_wp2_with fail;refine bodyPost_ret (v:=.tuple #[.slice none 0 0,.agg #[.int .i64 5,.int .i64 0]]) ?_ rfl (by rw [HPE.out]; exact parse_none (HKE.out _ _));simp [results,Tryz.results21,go_sem,x0,x1,Act.put]
        · have HPE:Hid (Sy.parseM s=⟨is,0,0⟩):=zz (by rw [HPX.out,if_neg h40]);have h41:¬ 40 < d:=h40;go_wp2_with fail;refine bodyPost_ret (v:=.tuple #[.slice sa av.length sc,.agg #[.int .i64 0,.int .i64 0]]) ?_ rfl ?_
          · simp [results,Tryz.results21,go_sem,x0,x1,Act.put]
          · rw [HPE.out];exact ⟨sa,sc,av,rfl,HKE.out _ _,(HO9.out.keep (HKF.out _ _) (fun q e=>.inl (fun h=>by have:=HRB.out; have h1:K.B≤q:=h; omega))).mono (fun q hq _=>hq),HLI.out.len,fun k a i ha hi=>((HI9.out k a i ha hi).keep (HKF.out _ _) (fun q e=>.inl (fun h=>by have:=HRB.out; have h1:K.B≤q:=h; omega))).mono (fun q hq _=>hq)⟩
      · have q1:(χ.code != 0)=true:=bne_iff_ne.2 hc;have HPE:Hid (Sy.parseM s=⟨[],χ.code,χ.wat⟩):=zz (by rw [HPZ.out,if_pos hc]);have y5:wr.cell? ⟨K.P,5,none⟩=some (.int .i64 χ.wat):=HAR.out.p.c (j:=5) rfl;have x0:wr.cell? ⟨R,0,none⟩=some (.int .i64 0):=by rw [cell_of_row wr R 0 _ _ _ HRX.out]; rfl
        have x1:wr.cell? ⟨R,1,none⟩=some (.int .i64 0):=by rw [cell_of_row wr R 1 _ _ _ HRX.out]; rfl
        have z0:wr.frozen? ⟨R,0,none⟩=false:=frozen_of_row wr R 0 _ _ HRX.out;have z1:wr.frozen? ⟨R,1,none⟩=false:=frozen_of_row wr R 1 _ _ HRX.out;have HKE1:Hid (∀ (a b:Value),Keeps No w (((wr.setCell ⟨R,0,none⟩ a).setCell ⟨R,1,none⟩ b).drew)):=zz (fun a b=>((HKX.out.setCell (p:=⟨R,0,none⟩) (.inr HRW.out) a).setCell (p:=⟨R,1,none⟩) (.inr HRW.out) b).drew);clear hc HE hg HLR HOR HPZ HPP;go_upto_region 9 with fail
        go_region
        all_goals
         go_wp2_with fail;refine bodyPost_ret (v:=.tuple #[.slice none 0 0,.agg #[.int .i64 χ.code,.int .i64 χ.wat]]) ?_ rfl (by rw [HPE.out]; exact parse_none (HKE1.out _ _));simp [results,Tryz.results21,go_sem,x0,x1,Act.put]
 · have q1:(tc != 0)=true:=bne_iff_ne.2 hc;have HPE:Hid (Sy.parseM s=⟨[],tc,tp⟩):=zz (by rw [HPM.out,if_pos hc]);have y0:w3.cell? ⟨R,0,none⟩=some (.int .i64 0):=by rw [cell_of_row w3 R 0 _ _ _ HR3.out]; rfl
   have y1:w3.cell? ⟨R,1,none⟩=some (.int .i64 0):=by rw [cell_of_row w3 R 1 _ _ _ HR3.out]; rfl
   have z0:w3.frozen? ⟨R,0,none⟩=false:=frozen_of_row w3 R 0 _ _ HR3.out;have z1:w3.frozen? ⟨R,1,none⟩=false:=frozen_of_row w3 R 1 _ _ HR3.out;have HKE:Hid (∀ (a b:Value) (n:Nat),Keeps No w (((w3.setCell ⟨R,0,none⟩ a).setCell ⟨R,1,none⟩ b).drewN n)):=zz (fun a b n=>((HK3.out.setCell (p:=⟨R,0,none⟩) (.inr HRW.out) a).setCell (p:=⟨R,1,none⟩) (.inr HRW.out) b).drewN n);have HKE1:Hid (∀ (a b:Value),Keeps No w (((w3.setCell ⟨R,0,none⟩ a).setCell ⟨R,1,none⟩ b).drew)):=zz (fun a b=>((HK3.out.setCell (p:=⟨R,0,none⟩) (.inr HRW.out) a).setCell (p:=⟨R,1,none⟩) (.inr HRW.out) b).drew);clear hc;go_upto_region 3 with fail
   go_region
   all_goals
    go_wp2_with fail;refine bodyPost_ret (v:=.tuple #[.slice none 0 0,.agg #[.int .i64 tc,.int .i64 tp]]) ?_ rfl (by rw [HPE.out]; exact parse_none (HKE1.out _ _));simp [results,Tryz.results21,go_sem,y0,y1,Act.put]
namespace Sy
theorem parse_items {s:ByteArray} (hp:parseOk s=true) (h:(parseM s).code=0):(∀ i∈(parseM s).items,okI i=true)∧(dumpL (parseM s).items).size≤BIG:=by
 unfold parseOk at hp;have e:parseM s=if (tokensM s).code≠0 then ⟨[],(tokensM s).code,(tokensM s).pos⟩ else if (itemsOf s).2.code≠0 then ⟨[],(itemsOf s).2.code,(itemsOf s).2.wat⟩ else if depthM (itemsOf s).1 > 40 then ⟨[],5,0⟩ else ⟨(itemsOf s).1,0,0⟩:=by
  unfold parseM itemsOf; rfl
 rw [e] at h ⊢;by_cases h1:(tokensM s).code≠0
 · rw [if_pos h1] at h; exact absurd h h1
 rw [if_neg h1] at h hp ⊢;by_cases h2:(itemsOf s).2.code≠0
 · rw [if_pos h2] at h; exact absurd h h2
 rw [if_neg h2] at h hp ⊢;by_cases h3:depthM (itemsOf s).1 > 40
 · rw [if_pos h3] at h; exact absurd h (by decide)
 rw [if_neg h3];simp only [Bool.and_eq_true,List.all_eq_true,decide_eq_true_eq] at hp;exact ⟨hp.2.2.1,hp.2.2.2.2⟩
def itemsAt (s:ByteArray):List Int × Int × Int:=let r:=parseM s; if r.code≠0 then ([],r.code,r.at_) else (r.items.map It.at_,0,0)
end Sy
theorem synDump_any (s:ByteArray) (w:World) (hl:LaidP w) (hp:Sy.parseOk s=true) :
    Calls Tryz.prog 12 #[.string s] w fun e w'=>e=.returned (.tuple #[.string (Sy.dumpM s).1,.agg #[.int .i64 (Sy.dumpM s).2.1,.int .i64 (Sy.dumpM s).2.2]])∧Keeps No w w':=by
 have HPI:=zz (fun h=>Sy.parse_items hp h);have HPA:=zz (fun W (hW:LaidP W)=>parse_any s W hW hp);have HL:=zz hl;have HD:Hid (Sy.dumpM s=if (Sy.parseM s).code≠0 then (Sy.nt,(Sy.parseM s).code,(Sy.parseM s).at_) else (Sy.dumpL (Sy.parseM s).items,0,0)):=zz rfl;obtain ⟨D,hD⟩:∃ D,Sy.dumpM s=D:=⟨_,rfl⟩;obtain ⟨r,hr⟩:∃ r,Sy.parseM s=r:=⟨_,rfl⟩;rw [hr] at HPI HPA;rw [hr,hD] at HD;rw [hD];obtain ⟨is,pc,pp⟩:=r;simp only at HPI HPA HD;clear hr hD hl hp;go_enter Tryz.func12,Tryz.ntmps12;go_upto_region 1 with fail
 obtain ⟨w1,hw1⟩:∃ W,w.alloc (.cells #[.int .i64 0,.int .i64 0] 25)=W:=⟨_,rfl⟩;obtain ⟨R,hRR⟩:∃ R,w.heap.size=R:=⟨_,rfl⟩;have r1:w1.heap[R]?=some (.cells #[.int .i64 0,.int .i64 0] 25 (0,0)):=by rw [← hw1,← hRR]; exact heap_alloc_new _ _
 have HK1:Hid (Keeps No w w1):=zz (by rw [← hw1]; exact (Keeps.refl _ _).alloc _);have HRW:Hid (w.heap.size≤R):=zz (by omega);rw [hw1,hRR];have HR1:=zz r1;have HL1:=zz (HL.out.no HK1.out);clear hw1 hRR r1;go_wp2_with fail;refine (HPA.out w1 HL1.out).mono ?_;rintro e w2 ⟨sa,sc,av,rfl,hk,hrw,hln,hit⟩;simp only at hln hit;have HK2:Hid (Keeps No w w2):=zz (HK1.out.trans hk (fun _ _ e=>e));have HR2:Hid (w2.heap[R]?=some (.cells #[.int .i64 0,.int .i64 0] 25 (0,0))):=zz ((hk.block _ (Array.getElem?_eq_some_iff.1 HR1.out).1 (fun e=>e)).trans HR1.out);have HRD:=zz hrw;have HLN:=zz hln;have HIT:=zz hit;clear hk hrw hln hit HK1 HR1 HL1 HPA;go_upto_region 2 with fail
 have hv:(w2.alloc (.cells #[.int .i64 pc,.int .i64 pp] 25)).heap[w2.heap.size]?=some (.cells #[.int .i64 pc,.int .i64 pp] 25 (0,0)):=heap_alloc_new _ _;have hk3:Keeps No w2 (w2.alloc (.cells #[.int .i64 pc,.int .i64 pp] 25)):=(Keeps.refl _ _).alloc _;generalize w2.alloc (.cells #[.int .i64 pc,.int .i64 pp] 25)=w3 at hv hk3 ⊢;obtain ⟨R5,hR5⟩:∃ q,w2.heap.size=q:=⟨_,rfl⟩;rw [hR5] at hv ⊢;have HK3:Hid (Keeps No w w3):=zz (HK2.out.trans hk3 (fun _ _ e=>e));have HR3:Hid (w3.heap[R]?=some (.cells #[.int .i64 0,.int .i64 0] 25 (0,0))):=zz ((hk3.block _ (Array.getElem?_eq_some_iff.1 HR2.out).1 (fun e=>e)).trans HR2.out);have HRD3:Hid (RwD w3 (fun q=>q < w3.heap.size) 58 1 (.slice sa av.length sc) av.length (ptrs av)):=zz ((HRD.out.keep hk3 (fun q e=>e.elim)).mono (fun q h _=>h));have HIT3:Hid (∀ (k:Nat) (a:Option Addr) (i:Sy.It),av[k]?=some a→is[k]?=some i→ItD w3 (fun q=>q < w3.heap.size) a i):=zz (fun k a i ha hi=>((HIT.out k a i ha hi).keep hk3 (fun q e=>e.elim)).mono (fun q h _=>h));have d0:w3.cell? ⟨R5,0,none⟩=some (.int .i64 pc):=by rw [cell_of_row w3 R5 0 _ _ _ hv]; rfl
 have d1:w3.cell? ⟨R5,1,none⟩=some (.int .i64 pp):=by rw [cell_of_row w3 R5 1 _ _ _ hv]; rfl
 clear hv hk3 hR5 HR2 HRD HIT;by_cases hc:pc=0
 · subst hc;have HDE:Hid (D=(Sy.dumpL is,0,0)):=zz (by rw [HD.out,if_neg (by decide)]);have HCD:=zz (dump_any w3 sa sc av is (HL.out.no HK3.out) HRD3.out HLN.out HIT3.out (HPI.out rfl).1 (HPI.out rfl).2);have q0:((0:Int) != 0)=false:=rfl;clear d1;go_wp2_with fail;refine HCD.out.mono ?_;rintro e w9 ⟨rfl,hk⟩;have HK9:Hid (Keeps No w w9):=zz (HK3.out.trans hk (fun _ _ e=>e));have HR9:Hid (w9.heap[R]?=some (.cells #[.int .i64 0,.int .i64 0] 25 (0,0))):=zz ((hk.block _ (Array.getElem?_eq_some_iff.1 HR3.out).1 (fun e=>e)).trans HR3.out);clear hk d0;have x0:w9.cell? ⟨R,0,none⟩=some (.int .i64 0):=by rw [cell_of_row w9 R 0 _ _ _ HR9.out]; rfl
   have x1:w9.cell? ⟨R,1,none⟩=some (.int .i64 0):=by rw [cell_of_row w9 R 1 _ _ _ HR9.out]; rfl
   have z0:w9.frozen? ⟨R,0,none⟩=false:=frozen_of_row w9 R 0 _ _ HR9.out;have z1:w9.frozen? ⟨R,1,none⟩=false:=frozen_of_row w9 R 1 _ _ HR9.out;have HKE:Hid (∀ (a b:Value),Keeps No w ((w9.setCell ⟨R,0,none⟩ a).setCell ⟨R,1,none⟩ b)):=zz (fun a b=>(HK9.out.setCell (p:=⟨R,0,none⟩) (.inr HRW.out) a).setCell (p:=⟨R,1,none⟩) (.inr HRW.out) b);go_wp2_with fail;refine bodyPost_ret (v:=.tuple #[.string (Sy.dumpL is),.agg #[.int .i64 0,.int .i64 0]]) ?_ rfl (by rw [HDE.out]; exact ⟨rfl,HKE.out _ _⟩);simp [results,Tryz.results12,go_sem,x0,x1,Act.put]
 · have q1:(pc != 0)=true:=bne_iff_ne.2 hc;have HDE:Hid (D=(Sy.nt,pc,pp)):=zz (by rw [HD.out,if_pos hc]);have y0:w3.cell? ⟨R,0,none⟩=some (.int .i64 0):=by rw [cell_of_row w3 R 0 _ _ _ HR3.out]; rfl
   have y1:w3.cell? ⟨R,1,none⟩=some (.int .i64 0):=by rw [cell_of_row w3 R 1 _ _ _ HR3.out]; rfl
   have z0:w3.frozen? ⟨R,0,none⟩=false:=frozen_of_row w3 R 0 _ _ HR3.out;have z1:w3.frozen? ⟨R,1,none⟩=false:=frozen_of_row w3 R 1 _ _ HR3.out;have HKE1:Hid (∀ (a b:Value),Keeps No w (((w3.setCell ⟨R,0,none⟩ a).setCell ⟨R,1,none⟩ b).drew)):=zz (fun a b=>((HK3.out.setCell (p:=⟨R,0,none⟩) (.inr HRW.out) a).setCell (p:=⟨R,1,none⟩) (.inr HRW.out) b).drew);clear hc;go_upto_region 3 with fail
   go_region
   all_goals
    go_wp2_with fail;refine bodyPost_ret (v:=.tuple #[.string ⟨#[]⟩,.agg #[.int .i64 pc,.int .i64 pp]]) ?_ rfl (by rw [HDE.out]; exact ⟨rfl,HKE1.out _ _⟩);simp [results,Tryz.results12,go_sem,y0,y1,Act.put]
namespace Sy
theorem itemsM_len (C:Cx) (g:Nat) (σ:St) (acc:List It):(itemsM C g σ acc).1.length≤acc.length+g:=by
 induction g generalizing σ acc with
 | zero=>exact Nat.le_refl _
 | succ g ih =>
   unfold itemsM;split
   · have e:=ih (itemM C σ).2 (acc++[(itemM C σ).1]);rw [List.length_append,List.length_singleton] at e;simp only;omega
   · simp only; omega
theorem items_few {s:ByteArray} (hp:parseOk s=true):(parseM s).items.length≤6001:=by
 unfold parseOk at hp;simp only [Bool.and_eq_true,decide_eq_true_eq] at hp;have e:parseM s=if (tokensM s).code≠0 then ⟨[],(tokensM s).code,(tokensM s).pos⟩ else if (itemsOf s).2.code≠0 then ⟨[],(itemsOf s).2.code,(itemsOf s).2.wat⟩ else if depthM (itemsOf s).1 > 40 then ⟨[],5,0⟩ else ⟨(itemsOf s).1,0,0⟩:=by
  unfold parseM itemsOf; rfl
 have h:=itemsM_len ⟨(tokensM s).l,s.size⟩ ((tokensM s).l.length+1) ⟨0,[],0,0⟩ [];have h2:(itemsOf s).1.length≤(tokensM s).l.length+1:=by unfold itemsOf; simpa using h
 rw [e];split
 · exact Nat.zero_le _
 split
 · exact Nat.zero_le _
 split
 · exact Nat.zero_le _
 · simp only; omega
end Sy
def intsR (l:List Int):List Value:=l.map (fun n=>.int .i64 n)
theorem infoIn:(Tryz.prog.info? 3).map (fun i=>(i.zero,i.size,i.bytes))=some (some (.int .i64 0),1,8):=by kernel_rfl
theorem wpList_appN (w:World) {ops:Array Oper} {rest:List Oper} {o:Oper} {a:Act} {Q:Exit→Act→World→Prop} (hgd:o.guard=none) (s x:Operand)
    (ho:o.op=.call { callee:=.builtin .append,args:=#[s,x],argTypes:=#[28,28] })
    (B:Nat) (v:Value) (n:Nat) (xs:List Value) (u:Int) (q:Nat) (hs:a.eval s=v) (hown:w.ownsRow B 3 1 v n xs) (hx:a.eval x=.slice (some ⟨q,0,none⟩) 1 1) (hq:w.heap[q]?=some (.cells #[.int .i64 u] 3 (0,0)))
    (hn:n≤999999) (hB:B≤w.heap.size)
    (h:∀ g' cap w',w'.ownsRow B 3 1 (.slice (some ⟨g',0,none⟩) (n+1) cap) (n+1) (xs++[.int .i64 u])→w.grownBy w' v.ownBlock→(v.ownBlock=some g'∨w.heap.size≤g')→wpList Tryz.prog ops Q rest (a.put o.dst (.slice (some ⟨g',0,none⟩) (n+1) cap)) w'):wpList Tryz.prog ops Q (o::rest) a w:=by
 obtain ⟨i0,hi,hz0,hz1,hz2⟩:=info_parts infoIn;refine wpList_append_lies w hgd s x _ ho B 3 i0 (.int .i64 0) 1 8 Tryz.underlying28 hi hz0 hz1 hz2 rfl (by decide) v n xs hs hown ⟨q,0,none⟩ 1 1 [.int .i64 u] hx rfl (fun j y hy=>?_) (fun y hy=>by simp at hy; subst hy; rfl) (by decide) (by unfold maxLen; omega) (by omega) hB _ rfl (fun g' cap w' k1 k2 k3 _=>h g' cap w' k1 k2 (k3.imp id (fun e=>by omega)));cases j with
 | zero=>obtain rfl:Value.int .i64 u=y:=by simpa using hy
         have e:(⟨q,0,none⟩:Addr).add 0=⟨q,0,none⟩:=by unfold Addr.add; split <;> simp_all
         rw [e]; unfold World.cell?; simp only; rw [hq]; rfl
 | succ j=>cases hy
def ItemsPost (w:World) (D:List Int × Int × Int) (e:Ending) (w':World):Prop :=
 ∃ (ra:Option Addr) (rc:Nat),e=.returned (.tuple #[.slice ra D.1.length rc,.agg #[.int .i64 D.2.1,.int .i64 D.2.2]])∧Keeps No w w'∧RwD w' (fun q=>q < w'.heap.size) 3 1 (.slice ra D.1.length rc) D.1.length (intsR D.1)
theorem synItems_any (s:ByteArray) (w:World) (hl:LaidP w) (hp:Sy.parseOk s=true) :
    Calls Tryz.prog 13 #[.string s] w (ItemsPost w (Sy.itemsAt s)):=by
 have HN60:=zz (Sy.items_few hp);have HPA:=zz (fun W (hW:LaidP W)=>parse_any s W hW hp);have HL:=zz hl;have HD:Hid (Sy.itemsAt s=if (Sy.parseM s).code≠0 then ([],(Sy.parseM s).code,(Sy.parseM s).at_) else ((Sy.parseM s).items.map Sy.It.at_,0,0)):=zz rfl;obtain ⟨D,hD⟩:∃ D,Sy.itemsAt s=D:=⟨_,rfl⟩;obtain ⟨r,hr⟩:∃ r,Sy.parseM s=r:=⟨_,rfl⟩;rw [hr] at HPA HN60;rw [hr,hD] at HD;rw [hD];obtain ⟨is,pc,pp⟩:=r;simp only at HPA HD HN60;have HN6:Hid (is.length≤6001):=HN60;clear hr hD hl hp HN60;go_enter Tryz.func13,Tryz.ntmps13;go_upto_region 1 with fail
 obtain ⟨w1,hw1⟩:∃ W,w.alloc (.cells #[.int .i64 0,.int .i64 0] 25)=W:=⟨_,rfl⟩;obtain ⟨R,hRR⟩:∃ R,w.heap.size=R:=⟨_,rfl⟩;have r1:w1.heap[R]?=some (.cells #[.int .i64 0,.int .i64 0] 25 (0,0)):=by rw [← hw1,← hRR]; exact heap_alloc_new _ _
 have HK1:Hid (Keeps No w w1):=zz (by rw [← hw1]; exact (Keeps.refl _ _).alloc _);have HRW:Hid (w.heap.size≤R):=zz (by omega);rw [hw1,hRR];have HR1:=zz r1;have HL1:=zz (HL.out.no HK1.out);clear hw1 hRR r1;go_wp2_with fail;refine (HPA.out w1 HL1.out).mono ?_;rintro e w2 ⟨sa,sc,av,rfl,hk,hrw,hln,hit⟩;simp only at hln hit;have HK2:Hid (Keeps No w w2):=zz (HK1.out.trans hk (fun _ _ e=>e));have HR2:Hid (w2.heap[R]?=some (.cells #[.int .i64 0,.int .i64 0] 25 (0,0))):=zz ((hk.block _ (Array.getElem?_eq_some_iff.1 HR1.out).1 (fun e=>e)).trans HR1.out);have HRD:=zz hrw;have HLN:=zz hln;have HIT:=zz hit;clear hk hrw hln hit HK1 HR1 HL1 HPA;go_upto_region 2 with fail
 have hv:(w2.alloc (.cells #[.int .i64 pc,.int .i64 pp] 25)).heap[w2.heap.size]?=some (.cells #[.int .i64 pc,.int .i64 pp] 25 (0,0)):=heap_alloc_new _ _;have hk3:Keeps No w2 (w2.alloc (.cells #[.int .i64 pc,.int .i64 pp] 25)):=(Keeps.refl _ _).alloc _;generalize w2.alloc (.cells #[.int .i64 pc,.int .i64 pp] 25)=w3 at hv hk3 ⊢;obtain ⟨R5,hR5⟩:∃ q,w2.heap.size=q:=⟨_,rfl⟩;rw [hR5] at hv ⊢;have HK3:Hid (Keeps No w w3):=zz (HK2.out.trans hk3 (fun _ _ e=>e));have HR3:Hid (w3.heap[R]?=some (.cells #[.int .i64 0,.int .i64 0] 25 (0,0))):=zz ((hk3.block _ (Array.getElem?_eq_some_iff.1 HR2.out).1 (fun e=>e)).trans HR2.out);have HRD3:Hid (RwD w3 (fun q=>q < w3.heap.size) 58 1 (.slice sa av.length sc) av.length (ptrs av)):=zz ((HRD.out.keep hk3 (fun q e=>e.elim)).mono (fun q h _=>h));have HIT3:Hid (∀ (k:Nat) (a:Option Addr) (i:Sy.It),av[k]?=some a→is[k]?=some i→ItD w3 (fun q=>q < w3.heap.size) a i):=zz (fun k a i ha hi=>((HIT.out k a i ha hi).keep hk3 (fun q e=>e.elim)).mono (fun q h _=>h));have d0:w3.cell? ⟨R5,0,none⟩=some (.int .i64 pc):=by rw [cell_of_row w3 R5 0 _ _ _ hv]; rfl
 have d1:w3.cell? ⟨R5,1,none⟩=some (.int .i64 pp):=by rw [cell_of_row w3 R5 1 _ _ _ hv]; rfl
 clear hv hk3 hR5 HR2 HRD HIT;by_cases hc:pc=0
 · subst hc;have HDE:Hid (D=(is.map Sy.It.at_,0,0)):=zz (by rw [HD.out,if_neg (by decide)]);have q0:((0:Int) != 0)=false:=rfl;obtain ⟨n,hn⟩:∃ n,av.length=n:=⟨_,rfl⟩;have HN:=zz hn;have hnb:=own_max HRD3.out.own;have HNB:Hid (n≤6001):=zz (by have:=HN6.out; have:=HLN.out; omega);rw [hn] at HRD3 hnb ⊢;clear hn d1;obtain ⟨B3,hB3⟩:∃ q,w3.heap.size=q:=⟨_,rfl⟩;have HB3:=zz hB3;clear hB3;go_upto_region 5 with fail
   go_wp2_with fail;go_loopg [6,20] n (fun gg v u wr=>∃ (i:Nat) (ra:Option Addr) (rc:Nat),u=.int .i64 (i:Int)∧v=.slice ra i rc∧i≤n∧gg=n - i∧Hid (Keeps No w3 wr)∧Hid (wr.ownsRow B3 3 1 (.slice ra i rc) i (intsR ((is.take i).map Sy.It.at_))))
   case atStart=>exact ⟨0,none,0,rfl,rfl,by omega,by omega,zz (Keeps.refl _ _),zz (World.ownsRow_nil _ _ _ _)⟩
   case round =>
    obtain ⟨i,ra,rc,rfl,rfl,hi,rfl,HKR,HOR⟩:=hrel;by_cases hlt:i < n
    · obtain ⟨a,hav⟩:∃ a,av[i]?=some a:=⟨_,List.getElem?_eq_getElem (by have:=HN.out; omega)⟩;obtain ⟨e1,hes⟩:∃ e,is[i]?=some e:=⟨_,List.getElem?_eq_getElem (by have:=HN.out; have:=HLN.out; omega)⟩;have hlt1:(i:Int) < (n:Int):=by omega
      have how:wr.ownsRow 0 58 1 (.slice sa n sc) n (ptrs av):=own_kept HRD3.out.own (fun q hq=>HKR.out.block q (own_ltb HRD3.out.own hq) (fun e=>e));obtain ⟨g,hg⟩:∃ g,sa=some ⟨g,0,none⟩:=by
       obtain ⟨aa,ca,e2,h2⟩:=own_form how;obtain ⟨g,hg⟩:=h2 (by omega);injection e2 with e2;exact ⟨g,e2.trans hg⟩
      subst hg;have cg:wr.cell? ⟨g,i,none⟩=some (.pointer a):=by
       have:=how.cells (g:=g) rfl i (.pointer a) (by unfold ptrs; rw [List.getElem?_map,hav]; rfl);rw [Lib.add_plain,Nat.zero_add] at this; exact this
      have hst:intsR ((is.take (i+1)).map Sy.It.at_)=intsR ((is.take i).map Sy.It.at_)++[.int .i64 e1.at_]:=by
       unfold intsR;rw [List.take_add_one,hes,List.map_append,List.map_append]; rfl
      have HST:=zz hst;have hit:=HIT3.out i a e1 hav hes;obtain ⟨N,rfl,hcn⟩:∃ N,a=some ⟨N,0,none⟩∧wr.cell? ⟨N,1,none⟩=some (.int .i64 e1.at_):=by
       cases hit with
       | mk N va vc ta tc pb pi la lc av' i' hD hrow hv ht hl hlen hsub hb hi' =>
         exact ⟨N,rfl,by rw [cell_of_row wr N 1 _ _ _ ((HKR.out.block N (Array.getElem?_eq_some_iff.1 hrow).1 (fun e=>e)).trans hrow)]; rfl⟩
      clear hit hst how hav hes;go_wp2_with (at_builtin; refine stop_here ?_);unfold Stop;have hk6:Keeps No wr (wr.alloc (.cells #[.int .i64 e1.at_] 3)):=(Keeps.refl _ _).alloc _;have hq6:(wr.alloc (.cells #[.int .i64 e1.at_] 3)).heap[wr.heap.size]?=some (.cells #[.int .i64 e1.at_] 3 (0,0)):=heap_alloc_new _ _;generalize wr.alloc (.cells #[.int .i64 e1.at_] 3)=w6 at hk6 hq6 ⊢;have HK6:Hid (Keeps No w3 w6):=zz (HKR.out.trans hk6 (fun _ _ e=>e));have HO6:Hid (w6.ownsRow B3 3 1 (.slice ra i rc) i (intsR ((is.take i).map Sy.It.at_))):=zz (own_kept HOR.out (fun q hq=>hk6.block q (own_ltb HOR.out hq) (fun e=>e)));have HQ6:=zz hq6;clear hk6 hq6 cg hcn;go_wp2_with (at_builtin; refine wpList_appN _ rfl (.tmp 24) (.tmp 29) rfl B3 (.slice ra i rc) i _ e1.at_ wr.heap.size rfl HO6.out rfl HQ6.out (by have:=HNB.out; omega) (by have:=HK6.out.size; have:=HB3.out; omega) ?_);intro g' cap' w7 ho7 hg7 hgo;have hk7:Keeps (fun q=>(Value.slice ra i rc).ownBlock=some q) w6 w7:=(Keeps.refl _ _).grown hg7 (fun q e=>.inl e);have HK7:Hid (Keeps No w3 w7):=zz (HK6.out.trans hk7 (fun q hq e=>by have:=own_lo HO6.out q e; have:=HB3.out; omega));have HO7:Hid (w7.ownsRow B3 3 1 (.slice (some ⟨g',0,none⟩) (i+1) cap') (i+1) (intsR ((is.take (i+1)).map Sy.It.at_))):=zz (by rw [HST.out,List.map_take]; exact ho7);clear ho7 hg7 hgo hk7;go_wp2_with fail;go_roundg (n - (i+1))
      case rel=>exact ⟨i+1,some ⟨g',0,none⟩,cap',by go_num,rfl,by omega,rfl,HK7,HO7⟩
      case measure=>omega
    · have hlt1:¬ (i:Int) < (n:Int):=by omega
      obtain rfl:i=n:=by omega
      have HK9:Hid (Keeps No w wr):=zz (HK3.out.trans HKR.out (fun _ _ e=>e));have HR9:Hid (wr.heap[R]?=some (.cells #[.int .i64 0,.int .i64 0] 25 (0,0))):=zz ((HKR.out.block _ (Array.getElem?_eq_some_iff.1 HR3.out).1 (fun e=>e)).trans HR3.out);have HO9:Hid (wr.ownsRow B3 3 1 (.slice ra i rc) i (intsR (is.map Sy.It.at_))):=zz (by
       have e:=HOR.out;rw [List.take_of_length_le (by have:=HLN.out; have:=HN.out; omega)] at e;exact e)
      have HRB:Hid (R < B3):=zz (by have:=(Array.getElem?_eq_some_iff.1 HR3.out).1; have:=HB3.out; omega);have HNL:Hid (i=is.length):=zz (by have:=HLN.out; have:=HN.out; omega);clear HKR HOR;have x0:wr.cell? ⟨R,0,none⟩=some (.int .i64 0):=by rw [cell_of_row wr R 0 _ _ _ HR9.out]; rfl
      have x1:wr.cell? ⟨R,1,none⟩=some (.int .i64 0):=by rw [cell_of_row wr R 1 _ _ _ HR9.out]; rfl
      have z0:wr.frozen? ⟨R,0,none⟩=false:=frozen_of_row wr R 0 _ _ HR9.out;have z1:wr.frozen? ⟨R,1,none⟩=false:=frozen_of_row wr R 1 _ _ HR9.out;have HKE:Hid (∀ (a b:Value),Keeps No w ((wr.setCell ⟨R,0,none⟩ a).setCell ⟨R,1,none⟩ b)):=zz (fun a b=>(HK9.out.setCell (p:=⟨R,0,none⟩) (.inr HRW.out) a).setCell (p:=⟨R,1,none⟩) (.inr HRW.out) b);have HKF:Hid (∀ (a b:Value),Keeps (fun q=>q=R) wr ((wr.setCell ⟨R,0,none⟩ a).setCell ⟨R,1,none⟩ b)):=zz (fun a b=>((Keeps.refl (fun q=>q=R) wr).setCell (p:=⟨R,0,none⟩) (.inl rfl) a).setCell (p:=⟨R,1,none⟩) (.inl rfl) b);go_wp2_with fail;refine bodyPost_ret (v:=.tuple #[.slice ra i rc,.agg #[.int .i64 0,.int .i64 0]]) ?_ rfl ?_
      · simp [results,Tryz.results13,go_sem,x0,x1,Act.put]
      · rw [HDE.out];refine ⟨ra,rc,?_,HKE.out _ _,?_⟩
        · show _=Ending.returned (.tuple #[.slice ra (is.map Sy.It.at_).length rc,.agg #[.int .i64 0,.int .i64 0]]);rw [List.length_map,← HNL.out]
        · show RwD _ _ 3 1 (.slice ra (is.map Sy.It.at_).length rc) (is.map Sy.It.at_).length _;rw [List.length_map,← HNL.out];exact (((RwD.of HO9.out).keep (HKF.out _ _) (fun q e=>.inl (fun h=>by have:=HRB.out; have h1:B3≤q:=h; omega))).mono (fun q hq _=>hq))
 · have q1:(pc != 0)=true:=bne_iff_ne.2 hc;have HDE:Hid (D=([],pc,pp)):=zz (by rw [HD.out,if_pos hc]);have y0:w3.cell? ⟨R,0,none⟩=some (.int .i64 0):=by rw [cell_of_row w3 R 0 _ _ _ HR3.out]; rfl
   have y1:w3.cell? ⟨R,1,none⟩=some (.int .i64 0):=by rw [cell_of_row w3 R 1 _ _ _ HR3.out]; rfl
   have z0:w3.frozen? ⟨R,0,none⟩=false:=frozen_of_row w3 R 0 _ _ HR3.out;have z1:w3.frozen? ⟨R,1,none⟩=false:=frozen_of_row w3 R 1 _ _ HR3.out;have HKE1:Hid (∀ (a b:Value),Keeps No w (((w3.setCell ⟨R,0,none⟩ a).setCell ⟨R,1,none⟩ b).drew)):=zz (fun a b=>((HK3.out.setCell (p:=⟨R,0,none⟩) (.inr HRW.out) a).setCell (p:=⟨R,1,none⟩) (.inr HRW.out) b).drew);clear hc;go_upto_region 3 with fail
   go_region
   all_goals
    go_wp2_with fail;refine bodyPost_ret (v:=.tuple #[.slice none 0 0,.agg #[.int .i64 pc,.int .i64 pp]]) ?_ rfl (by rw [HDE.out]; exact ⟨none,0,rfl,HKE1.out _ _,RwD.nil _ _ _ _ 0⟩);simp [results,Tryz.results13,go_sem,y0,y1,Act.put]
structure Sl where
 a:Option Addr
 n:Nat
 cap:Nat
 l:List Int
abbrev Sl.v (s:Sl):Value:=.slice s.a s.n s.cap
structure SlAt (w:World) (s:Sl):Prop where
 len:s.l.length=s.n
 cap:s.n≤s.cap∧s.cap≤maxLen
 bd:∀ z∈s.l,I64 z
 at_:0 < s.n→∃ b off,s.a=some ⟨b,off,none⟩∧∀ (i:Nat) (z:Int),s.l[i]?=some z→w.cell? ⟨b,off+i,none⟩=some (.int .i64 z)
theorem low_any (x n:Int) (hx:-9223372036854775808≤x∧x≤9223372036854775807) (hn:1≤n∧n≤4611686018427387904) (w:World) :
    Calls Tryz.prog 18 #[.int .i64 x,.int .i64 n] w fun e w'=>e=.returned (.int .i64 (IntKind.u64.wrap x % n))∧w=w':=by
 have hb:0≤IntKind.u64.wrap x∧IntKind.u64.wrap x≤18446744073709551615:=by simp only [IntKind.wrap,IntKind.bits,IntKind.signed]; simp; omega
 have h0:¬ n=0:=by omega
 have h1:0≤IntKind.u64.wrap x % n∧IntKind.u64.wrap x % n < n:=⟨Int.emod_nonneg _ h0,Int.emod_lt_of_pos _ (by omega)⟩;go_enter Tryz.func18,Tryz.ntmps18;go_wp2;go_returns;exact ⟨ri rfl rfl,rfl⟩
theorem low_nat (x n:Int) (hx:-9223372036854775808≤x∧x≤9223372036854775807) (hn:1≤n∧n≤4611686018427387904) :
    ∃ k:Nat,(k:Int) < n∧IntKind.u64.wrap x % n=(k:Int):=by
 have h0:¬ n=0:=by omega
 have h1:0≤IntKind.u64.wrap x % n∧IntKind.u64.wrap x % n < n:=⟨Int.emod_nonneg _ h0,Int.emod_lt_of_pos _ (by omega)⟩;exact ⟨(IntKind.u64.wrap x % n).toNat,by omega,by omega⟩
theorem SlAt.get {w:World} {s:Sl} (h:SlAt w s) {i:Nat} (hi:i < s.n):∃ (b off:Nat) (z:Int),s.l[i]?=some z∧s.a=some ⟨b,off,none⟩∧w.cell? ⟨b,off+i,none⟩=some (.int .i64 z):=by
 obtain ⟨b,off,e,hc⟩:=h.at_ (by omega);obtain ⟨z,hz⟩:∃ z,s.l[i]?=some z:=⟨_,List.getElem?_eq_getElem (by rw [h.len]; exact hi)⟩;exact ⟨b,off,z,hz,e,hc i z hz⟩
theorem same_ints (s t:Sl) (w:World) (hs:SlAt w s) (ht:SlAt w t) (hn:s.n≤1000000) :
    Calls Tryz.prog 15 #[s.v,t.v] w fun e w'=>e=.returned (.bool (decide (s.l=t.l)))∧∃ m,w.drewN m=w':=by
 obtain ⟨X,hX⟩:∃ X,decide (s.l=t.l)=X:=⟨_,rfl⟩;rw [hX];have HX:=zz hX;have HS:=zz hs;have HT:=zz ht;have hcs:=hs.cap;have hct:=ht.cap;unfold maxLen at hcs hct;clear hX hs ht;obtain ⟨sa,sn,sc,sl⟩:=s;obtain ⟨ta,tn,tc,tl⟩:=t;simp only at hn hcs hct HX;change Calls Tryz.prog 15 #[.slice sa sn sc,.slice ta tn tc] w _;by_cases hnn:sn=tn
 · subst hnn;have e1:((sn:Int) != (sn:Int))=false:=by simp
   go_enter Tryz.func15,Tryz.ntmps15;go_wp2_with fail;go_loopg [5] sn (fun g v wr=>∃ i m:Nat,v=.int .i64 (i:Int)∧i≤sn∧g=sn - i∧Hid (sl.take i=tl.take i)∧w.drewN m=wr)
   case atStart=>exact ⟨0,0,rfl,Nat.zero_le _,rfl,zz rfl,rfl⟩
   case round =>
    obtain ⟨i,m,rfl,hi,hg,HE,rfl⟩:=hrel;by_cases hlt:i < sn
    · have hlt':(i:Int) < (sn:Int):=by omega
      have i0:(0:Int)≤(i:Int):=by omega
      obtain ⟨b1,o1,z1,hz1,rfl,c1⟩:=HS.out.get hlt;obtain ⟨b2,o2,z2,hz2,rfl,c2⟩:=HT.out.get hlt;have HZ1:=zz hz1;have HZ2:=zz hz2;clear hz1 hz2;by_cases hz:z1=z2
      · have e2:(z1 != z2)=false:=by rw [hz]; simp
        have HZ:=zz hz;clear hz;go_wp2_with fail;go_quiet (fail);go_wp2_with fail;go_roundg (sn - (i+1))
        case rel=>exact ⟨i+1,m+nq,by go_num,by omega,rfl,zz (by
         obtain ⟨h1,h2⟩:=List.getElem?_eq_some_iff.1 HZ1.out;obtain ⟨h3,h4⟩:=List.getElem?_eq_some_iff.1 HZ2.out;rw [List.take_succ_eq_append_getElem h1,List.take_succ_eq_append_getElem h3,HE.out,h2,h4,HZ.out]),rfl⟩
        case measure=>omega
      · have e2:(z1 != z2)=true:=bne_iff_ne.2 hz;have HF:Hid (X=false):=zz (by
         rw [← HX.out]; exact decide_eq_false (fun e=>hz (by have h:=HZ1.out; rw [e] at h; have h2:=HZ2.out; simp only at h h2; rw [h] at h2; injection h2)))
        clear hz;go_wp2_with fail;go_quiet (fail);go_wp2_with fail;go_returns;exact ⟨rb rfl HF.out.symm,m+nq,by rw [World.drewN_drewN]⟩
    · obtain rfl:i=sn:=by omega
      have hlt':¬ (i:Int) < (i:Int):=by omega
      have HF:Hid (X=true):=zz (by
       rw [← HX.out]; exact decide_eq_true (by have h:=HE.out; rw [List.take_of_length_le (by have:=HS.out.len; simp only at this; omega),List.take_of_length_le (by have:=HT.out.len; simp only at this; omega)] at h; exact h))
      go_wp2_with fail;go_returns;exact ⟨rb rfl HF.out.symm,m,rfl⟩
 · have e1:((sn:Int) != (tn:Int))=true:=by rw [bne_iff_ne]; omega
   have HF:Hid (X=false):=zz (by
    rw [← HX.out]; exact decide_eq_false (fun e=>hnn (by have h1:=HS.out.len; have h2:=HT.out.len; simp only at h1 h2; rw [e] at h1; omega)))
   clear hnn;go_enter Tryz.func15,Tryz.ntmps15;go_wp2_with fail;go_returns;exact ⟨rb rfl HF.out.symm,0,rfl⟩
theorem intsR_get {l:List Int} {i:Nat} {z:Int} (h:l[i]?=some z):(intsR l)[i]?=some (.int .i64 z):=by unfold intsR; rw [List.getElem?_map,h]; rfl
theorem row_sl {w:World} {ra:Option Addr} {rc:Nat} {l:List Int} {D:Nat→Prop} (h:RwD w D 3 1 (.slice ra l.length rc) l.length (intsR l)) (hb:∀ z∈l,I64 z):SlAt w ⟨ra,l.length,rc,l⟩:=by
 rcases h.own.2 with ⟨h1,h2⟩ | ⟨g,cap,cur,h1,h2,h3,h4,h5,h6,h7⟩
 · injection h1 with e1 e2 e3;exact ⟨rfl,⟨by simp only; omega,by simp only; unfold maxLen; omega⟩,hb,fun h=>absurd h (by simp only; omega)⟩
 · injection h1 with e1 e2 e3;subst e1 e3;refine ⟨rfl,⟨h4,h5⟩,hb,fun _=>⟨g,0,rfl,fun i z hz=>?_⟩⟩;have e:=h.own.cells (g:=g) rfl i _ (intsR_get hz);rw [Lib.add_plain] at e;exact e
theorem SlAt.no {w w':World} {s:Sl} (h:SlAt w s) (hk:Keeps No w w'):SlAt w' s :=
 ⟨h.len,h.cap,h.bd,fun hn=>by obtain ⟨b,off,e,hc⟩:=h.at_ hn; exact ⟨b,off,e,fun i z hz=>hk.cell0 (hc i z hz)⟩⟩
theorem two_sl {w:World} {q:Nat} {a b:Int} (h:w.heap[q]?=some (.cells #[.int .i64 a,.int .i64 b] 3 (0,0))) (ha:I64 a) (hb:I64 b):SlAt w ⟨some ⟨q,0,none⟩,2,2,[a,b]⟩ :=
 ⟨rfl,⟨Nat.le_refl _,by unfold maxLen; simp only; omega⟩,(fun y hy=>by
  have e:y=a∨y=b:=by simpa using hy
  rcases e with e | e
  · rw [e]; exact ha
  · rw [e]; exact hb),fun _=>⟨q,0,rfl,fun i y hy=>by
  cases i with
  | zero=>obtain rfl:a=y:=by simpa using hy
          rw [cell_of_row w q _ _ _ _ h]; rfl
  | succ i=>cases i with
    | zero=>obtain rfl:b=y:=by simpa using hy
            rw [cell_of_row w q _ _ _ _ h]; rfl
    | succ i=>simp at hy⟩⟩
theorem dump_to (s t:ByteArray) (c p:Int) (h:Sy.dumpM s=(t,c,p)) (hp:Sy.parseOk s=true) (w:World) (hl:LaidP w):Calls Tryz.prog 12 #[.string s] w fun e w'=>e=.returned (.tuple #[.string t,.agg #[.int .i64 c,.int .i64 p]])∧Keeps No w w':=by
 have e:=synDump_any s w hl hp;rw [h] at e;exact e
theorem items_to (s:ByteArray) (l:List Int) (c p:Int) (n:Nat) (h:Sy.itemsAt s=(l,c,p)) (hn:l.length=n) (hp:Sy.parseOk s=true) (hb:∀ z∈l,I64 z) (w:World) (hl:LaidP w):Calls Tryz.prog 13 #[.string s] w fun e w'=>∃ ra rc,e=.returned (.tuple #[.slice ra n rc,.agg #[.int .i64 c,.int .i64 p]])∧Keeps No w w'∧SlAt w' ⟨ra,n,rc,l⟩:=by
 have e:=synItems_any s w hl hp;rw [h] at e;subst hn;refine e.mono ?_;rintro e w' ⟨ra,rc,h1,h2,h3⟩;exact ⟨ra,rc,h1,h2,row_sl h3 hb⟩
theorem same_to (s t:Sl) (b:Bool) (h:decide (s.l=t.l)=b) (w:World) (hs:SlAt w s) (ht:SlAt w t) (hn:s.n≤1000000):Calls Tryz.prog 15 #[s.v,t.v] w fun e w'=>e=.returned (.bool b)∧Keeps No w w':=by
 have e:=same_ints s t w hs ht hn;rw [h] at e;refine e.mono ?_;rintro e w' ⟨h1,m,rfl⟩;exact ⟨h1,(Keeps.refl _ _).drewN m⟩
theorem aw1:Sy.dumpM ⟨#[105,110,116,32,97,59,32,105,110,116,32,109,97,105,110,40,41,32,123,32,114,101,116,117,114,110,32,97,59,32,125]⟩=(⟨#[40,118,97,114,32,105,51,50,32,97,32,48,32,45,41,10,40,102,117,110,99,32,105,51,50,32,109,97,105,110,32,40,41,32,40,98,108,111,99,107,32,40,114,101,116,117,114,110,32,40,110,97,109,101,32,97,41,41,41,41,10]⟩,0,0):=by kernel_rfl
theorem aw1k:Sy.parseOk ⟨#[105,110,116,32,97,59,32,105,110,116,32,109,97,105,110,40,41,32,123,32,114,101,116,117,114,110,32,97,59,32,125]⟩=true:=by kernel_rfl
theorem aw2:Sy.dumpM ⟨#[105,110,116,32,97]⟩=(⟨#[]⟩,4,5):=by kernel_rfl
theorem aw2k:Sy.parseOk ⟨#[105,110,116,32,97]⟩=true:=by kernel_rfl
theorem aw3:Sy.itemsAt ⟨#[105,110,116,32,97,59,32,105,110,116,32,98,59]⟩=([0,7],0,0):=by kernel_rfl
theorem aw3k:Sy.parseOk ⟨#[105,110,116,32,97,59,32,105,110,116,32,98,59]⟩=true:=by kernel_rfl
theorem wrong_kept {w w1:World} {q:Nat} {a b:Int} (hk:Keeps No w w1) (h:w.heap[q]?=some (.cells #[.int .i64 a,.int .i64 b] 25 (0,0))):w1.heap[q]?=some (.cells #[.int .i64 a,.int .i64 b] 25 (0,0)):=(hk.block _ (Array.getElem?_eq_some_iff.1 h).1 (fun e=>e)).trans h
theorem awake_any (w:World) (hl:LaidP w):Calls Tryz.prog 11 #[] w fun e w'=>e=.returned (.bool true)∧Keeps No w w':=by
 have HL:=zz hl;have HC1:=zz (fun W hW=>dump_to _ _ _ _ aw1 aw1k W hW);have HC2:=zz (fun W hW=>dump_to _ _ _ _ aw2 aw2k W hW);have HC3:=zz (fun W hW=>items_to _ _ _ _ 2 aw3 rfl aw3k (fun z hz=>by
  have e:z=0∨z=7:=by simpa using hz
  unfold I64;rcases e with e | e <;> rw [e] <;> decide) W hW)
 clear hl;go_enter Tryz.func11,Tryz.ntmps11;go_wp2_with fail;refine (HC1.out w HL.out).mono ?_;rintro e w1 ⟨rfl,hk1⟩;go_upto_region 2 with fail
 have hn2:(w1.alloc (.cells #[.int .i64 0,.int .i64 0] 25)).heap[w1.heap.size]?=some (.cells #[.int .i64 0,.int .i64 0] 25 (0,0)):=heap_alloc_new _ _;have hk2:Keeps No w (w1.alloc (.cells #[.int .i64 0,.int .i64 0] 25)):=hk1.alloc _;generalize w1.alloc (.cells #[.int .i64 0,.int .i64 0] 25)=w2 at hn2 hk2 ⊢;obtain ⟨R2,hR2⟩:∃ q,w1.heap.size=q:=⟨_,rfl⟩;rw [hR2] at hn2 ⊢;have HN2:=zz hn2;have HK2:=zz hk2;clear hR2 hn2 hk1 hk2;go_wp2_with fail;refine (HC2.out w2 (HL.out.no HK2.out)).mono ?_;rintro e w3 ⟨rfl,hk3⟩;have HK3:=zz (HK2.out.trans hk3 (fun _ _ e=>e));have HN3:=zz (wrong_kept hk3 HN2.out);clear hk3 HN2;go_upto_region 3 with fail
 have hn4:(w3.alloc (.cells #[.int .i64 4,.int .i64 5] 25)).heap[w3.heap.size]?=some (.cells #[.int .i64 4,.int .i64 5] 25 (0,0)):=heap_alloc_new _ _;have hk4:Keeps No w3 (w3.alloc (.cells #[.int .i64 4,.int .i64 5] 25)):=(Keeps.refl _ _).alloc _;generalize w3.alloc (.cells #[.int .i64 4,.int .i64 5] 25)=w4 at hn4 hk4 ⊢;obtain ⟨R4,hR4⟩:∃ q,w3.heap.size=q:=⟨_,rfl⟩;rw [hR4] at hn4 ⊢;have HM4:=zz hn4;have HK4:=zz (HK3.out.trans hk4 (fun _ _ e=>e));have HN4:=zz (wrong_kept hk4 HN3.out);clear hR4 hn4 hk4 HN3;go_wp2_with fail;refine (HC3.out w4 (HL.out.no HK4.out)).mono ?_;rintro e w5 ⟨ra,rc,rfl,hk5,hs5⟩;have HK5:=zz (HK4.out.trans hk5 (fun _ _ e=>e));have HN5:=zz (wrong_kept hk5 HN4.out);have HM5:=zz (wrong_kept hk5 HM4.out);have HS5:=zz hs5;clear hk5 hs5 HN4 HM4;go_upto_region 4 with fail
 have hn6:(w5.alloc (.cells #[.int .i64 0,.int .i64 0] 25)).heap[w5.heap.size]?=some (.cells #[.int .i64 0,.int .i64 0] 25 (0,0)):=heap_alloc_new _ _;have hk6:Keeps No w5 (w5.alloc (.cells #[.int .i64 0,.int .i64 0] 25)):=(Keeps.refl _ _).alloc _;generalize w5.alloc (.cells #[.int .i64 0,.int .i64 0] 25)=w6 at hn6 hk6 ⊢;obtain ⟨R6,hR6⟩:∃ q,w5.heap.size=q:=⟨_,rfl⟩;rw [hR6] at hn6 ⊢;have HK6:=zz (HK5.out.trans hk6 (fun _ _ e=>e));have HN6:=zz (wrong_kept hk6 HN5.out);have HM6:=zz (wrong_kept hk6 HM5.out);have HP6:=zz hn6;have HS6:=zz (HS5.out.no hk6);clear hR6 hn6 hk6 HN5 HM5 HS5;have a0:w6.cell? ⟨R2,0,none⟩=some (.int .i64 0):=by rw [cell_of_row w6 R2 0 _ _ _ HN6.out]; rfl
 have a1:w6.cell? ⟨R2,1,none⟩=some (.int .i64 0):=by rw [cell_of_row w6 R2 1 _ _ _ HN6.out]; rfl
 have b0:w6.cell? ⟨R4,0,none⟩=some (.int .i64 4):=by rw [cell_of_row w6 R4 0 _ _ _ HM6.out]; rfl
 have b1:w6.cell? ⟨R4,1,none⟩=some (.int .i64 5):=by rw [cell_of_row w6 R4 1 _ _ _ HM6.out]; rfl
 have HCS:Hid (∀ W,W=w6.alloc (.cells #[.int .i64 0,.int .i64 7] 3)→Calls Tryz.prog 15 #[.slice ra 2 rc,.slice (some ⟨w6.heap.size,0,none⟩) 2 2] W fun e w'=>e=.returned (.bool true)∧Keeps No w6 w'):=zz (fun W hW=>by
  subst hW;have hk:=(Keeps.refl No w6).alloc (.cells #[.int .i64 0,.int .i64 7] 3);refine (same_to ⟨ra,2,rc,[0,7]⟩ ⟨some ⟨w6.heap.size,0,none⟩,2,2,[0,7]⟩ true rfl _ (HS6.out.no hk) (two_sl (heap_alloc_new _ _) (by unfold I64; decide) (by unfold I64; decide)) (show 2≤1000000 by decide)).mono ?_;rintro e w' ⟨h1,h2⟩;exact ⟨h1,hk.trans h2 (fun _ _ e=>e)⟩)
 go_wp2_with fail;refine (HCS.out _ rfl).mono ?_;rintro e w7 ⟨rfl,hk7⟩;have HK7:=zz (HK6.out.trans hk7 (fun _ _ e=>e));have HP7:=zz (wrong_kept hk7 HP6.out);clear hk7 a0 a1 b0 b1;have c0:w7.cell? ⟨R6,0,none⟩=some (.int .i64 0):=by rw [cell_of_row w7 R6 0 _ _ _ HP7.out]; rfl
 go_wp2_with fail;go_returns;exact ⟨rfl,HK7.out⟩
end Go.Proofs.YtflbkdfbjofllaaGreatDoor
namespace Go.Proofs.YtflbkdfbjofllaaGreatDoor
open Go.ChangeShapes Go.WideShapes Go.ChangeAt Go.RowKit
def laidD : List (String × DataW Unit) := [("math/bits.deBruijn32tab", Rows.laid_math_bits_deBruijn32tab), ("math/bits.deBruijn64tab", Rows.laid_math_bits_deBruijn64tab), ("internal/strconv.uint64pow10", Rows.laid_internal_strconv_uint64pow10)]
theorem own:ownKnob Tryz.prog.godebug=none:=by kernel_rfl
theorem tP:(Tryz.prog.globals[0]?).map (·.type)=some 171:=by kernel_rfl
theorem cP8:Tryz.prog.cellsOf 34=1:=by kernel_rfl
theorem cP20:Tryz.prog.cellsOf 171=20:=by kernel_rfl
theorem pow_eq:(Rows.laid_internal_strconv_uint64pow10:DataW Unit)=Lib.tabData .u64 Lib.pow10Tab:=by rfl
theorem door_met (os:Os) (args:Array Value):laidMetH Tryz.prog laidD ((World.doorLaid Tryz.prog 24 os).forCall (fun _ _=>0) ⟨#[],args,[]⟩).memory :=
 laidMetH_of_parts3 (fuel:=8) (laidMet_of_run' 8 (by kernel_rfl) (by kernel_rfl)) (by kernel_rfl) (by kernel_rfl)
theorem laid_of {W:World} (h:laidMetH Tryz.prog laidD W):LaidP W:=by
 rw [MakeChecks.laidMetH_plain _ _ _ (by kernel_rfl)] at h;have h2:=laidMet.tail (laidMet.tail h);rw [pow_eq] at h2
 have ht : Lib.TabIs Tryz.prog W "internal/strconv.uint64pow10" .u64 Lib.pow10Tab := Lib.tabIs_of_head gP tP Tryz.underlying171 Tryz.underlying34 cP8 cP20 h2
 refine ⟨ht,?_⟩;by_cases hz:0 < W.heap.size
 · exact hz
 · unfold Lib.TabIs World.var? at ht;rw [gP] at ht;have e:W.heap[0]?=none:=Array.getElem?_eq_none (by omega);simp [e] at ht
end Go.Proofs.YtflbkdfbjofllaaGreatDoor
