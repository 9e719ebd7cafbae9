import Derived.Test.YtjgkacggjhobmaaGreatDoorLyPkP
import Derived.Test.YtjgkacggjhobmaaGreatDoorLyPkO
import Derived.Test.YtjgkacggjhobmaaGreatDoorLyPkB
import Derived.Deep.DeepCutAuto
import Derived.Deep.Onto
import Derived.Test.YtjgkacggjhobmaaGreatDoorLyPkK
import Derived.Carry
set_option maxRecDepth 100000
set_option maxHeartbeats 25600000
set_option linter.unusedSimpArgs false
set_option linter.unusedVariables false
namespace Go.Proofs.YtjgkacggjhobmaaGreatDoor.L
open Go.RowKit
theorem token_name (p:Nat) (s:ByteArray) (i:Nat) (hi:i≤s.size) (hs:s.size≤4611686018427387904) (c:Int) (HC:Hid (Lx.pk s i=c)) (HL:Hid (Lx.letB c=true)) (K C:Int) (E:Nat) (HN1:Hid ((Lx.nameM s i (Lx.nameEnd s i)).2=K)) (HN2:Hid ((Lx.nameM s i (Lx.nameEnd s i)).1=C)) (HN3:Hid (Lx.nameEnd s i=E)) (w0 w:World) (h:Sc p s i w0 w) :
    Calls Tryz.prog 39 #[.pointer (some ⟨p,0,none⟩)] w (TokPost p s w0 K ⟨#[]⟩ 0 false C E):=by
 have HZ:Hid (w.heap.size < (w.alloc (.cells #[.int .i64 0,.int .i64 0,.string ⟨#[]⟩,.string ⟨#[]⟩,.int .u64 0,.bool false] 83)).heap.size):=zz (by simp);have HT:=zz (TokAt.made w);have HQ:=zz (Nat.ne_of_gt h.lt);have HG:=zz h.g.size;have HS:=zz h;have B0:Hid (Sc p s i (w.alloc (.cells #[.int .i64 0,.int .i64 0,.string ⟨#[]⟩,.string ⟨#[]⟩,.int .u64 0,.bool false] 83)) (w.alloc (.cells #[.int .i64 0,.int .i64 0,.string ⟨#[]⟩,.string ⟨#[]⟩,.int .u64 0,.bool false] 83))):=zz (h.alloc _).refl;clear h;have hcb:=Lx.pk_bd s i;rw [HC.out] at hcb;go_enter Tryz.func39,Tryz.ntmps39;go_wp2_with fail;refine (peek_as p s i i 0 _ (by decide) (by omega) hi hs HC _ _ B0.out).mono ?_;rintro e x1 ⟨rfl,h1⟩;have B1:=zz h1;clear h1;go_wp2_with fail;refine (letter_as c _ hcb HL _).mono ?_;rintro e x2 ⟨rfl,rfl⟩;have hN:=name_any p s i hi hs _ _ B1.out;rw [HN1.out,HN2.out,HN3.out] at hN;go_wp2_with fail;refine (hN).mono ?_;rintro e x4 ⟨he,h1⟩;unfold tokV at he;subst he;have B4:=zz h1;clear h1;obtain ⟨t0,t1,t2,t3,t4,t5,tf⟩:=(HT.out.on B4.out HZ.out HQ.out).cells;go_wp2_with fail;refine bodyPost_ret (v:=.tuple #[tokV K ⟨#[]⟩ 0 false,.int .i64 C]) (by simp [results,Tryz.results39,go_sem,tokV,t0,t1,t2,t3,t4,t5]) rfl ⟨rfl,?_⟩
 repeat (first | with_reducible refine Sc.setq ?_ HG.out HQ.out _ _ | with_reducible refine Sc.drewN ?_ _)
 exact (HS.out.alloc _).onto B4.out
theorem token_number (p:Nat) (s:ByteArray) (i:Nat) (hi:i≤s.size) (hs:s.size≤4611686018427387904) (c:Int) (HC:Hid (Lx.pk s i=c)) (HL:Hid (Lx.letB c=false)) (HD:Hid (Lx.digB c=true)) (r:Lx.NumR) (HR:Hid (Lx.numberM s i=r)) (w0 w:World) (h:Sc p s i w0 w) :
    Calls Tryz.prog 39 #[.pointer (some ⟨p,0,none⟩)] w (RecPost p s w0 r):=by
 have HZ:Hid (w.heap.size < (w.alloc (.cells #[.int .i64 0,.int .i64 0,.string ⟨#[]⟩,.string ⟨#[]⟩,.int .u64 0,.bool false] 83)).heap.size):=zz (by simp);have HT:=zz (TokAt.made w);have HQ:=zz (Nat.ne_of_gt h.lt);have HG:=zz h.g.size;have HS:=zz h;have B0:Hid (Sc p s i (w.alloc (.cells #[.int .i64 0,.int .i64 0,.string ⟨#[]⟩,.string ⟨#[]⟩,.int .u64 0,.bool false] 83)) (w.alloc (.cells #[.int .i64 0,.int .i64 0,.string ⟨#[]⟩,.string ⟨#[]⟩,.int .u64 0,.bool false] 83))):=zz (h.alloc _).refl;clear h;have hcb:=Lx.pk_bd s i;rw [HC.out] at hcb;go_enter Tryz.func39,Tryz.ntmps39;go_wp2_with fail;refine (peek_as p s i i 0 _ (by decide) (by omega) hi hs HC _ _ B0.out).mono ?_;rintro e x1 ⟨rfl,h1⟩;have B1:=zz h1;clear h1;go_wp2_with fail;refine (letter_as c _ hcb HL _).mono ?_;rintro e x2 ⟨rfl,rfl⟩;go_wp2_with fail;refine (digit_as c _ hcb HD _).mono ?_;rintro e x3 ⟨rfl,rfl⟩;have hN:=number_any p s i hi hs _ _ B1.out;rw [HR.out] at hN;obtain ⟨code,j,kind,suf,num,hex⟩:=r;unfold RecPost at hN ⊢;go_wp2_with fail;refine (hN).mono ?_;rintro e x4 ⟨he,h1⟩;unfold tokV at he;subst he;have B4:=zz h1;clear h1;obtain ⟨t0,t1,t2,t3,t4,t5,tf⟩:=(HT.out.on B4.out HZ.out HQ.out).cells;go_wp2_with fail;refine bodyPost_ret (v:=.tuple #[tokV kind suf num hex,.int .i64 code]) (by simp [results,Tryz.results39,go_sem,tokV,t0,t1,t2,t3,t4,t5]) rfl ⟨rfl,?_⟩
 repeat (first | with_reducible refine Sc.setq ?_ HG.out HQ.out _ _ | with_reducible refine Sc.drewN ?_ _)
 exact (HS.out.alloc _).onto B4.out
theorem token_char (p:Nat) (s:ByteArray) (i:Nat) (hi:i≤s.size) (hs:s.size≤4611686018427387904) (c:Int) (HC:Hid (Lx.pk s i=c)) (HL:Hid (Lx.letB c=false)) (HD:Hid (Lx.digB c=false)) (H39:Hid (c=39)) (K C V:Int) (E:Nat) (H1:Hid (Lx.chK s i=K)) (H2:Hid ((Lx.chM s i).1=C)) (H3:Hid ((Lx.chM s i).2.2=V)) (H4:Hid (i+(Lx.chM s i).2.1=E)) (w0 w:World) (h:Sc p s i w0 w) :
    Calls Tryz.prog 39 #[.pointer (some ⟨p,0,none⟩)] w (TokPost p s w0 K ⟨#[]⟩ V false C E):=by
 have HZ:Hid (w.heap.size < (w.alloc (.cells #[.int .i64 0,.int .i64 0,.string ⟨#[]⟩,.string ⟨#[]⟩,.int .u64 0,.bool false] 83)).heap.size):=zz (by simp);have HT:=zz (TokAt.made w);have HQ:=zz (Nat.ne_of_gt h.lt);have HG:=zz h.g.size;have HS:=zz h;have B0:Hid (Sc p s i (w.alloc (.cells #[.int .i64 0,.int .i64 0,.string ⟨#[]⟩,.string ⟨#[]⟩,.int .u64 0,.bool false] 83)) (w.alloc (.cells #[.int .i64 0,.int .i64 0,.string ⟨#[]⟩,.string ⟨#[]⟩,.int .u64 0,.bool false] 83))):=zz (h.alloc _).refl;clear h;have hcb:=Lx.pk_bd s i;rw [HC.out] at hcb;go_enter Tryz.func39,Tryz.ntmps39;go_wp2_with fail;refine (peek_as p s i i 0 _ (by decide) (by omega) hi hs HC _ _ B0.out).mono ?_;rintro e x1 ⟨rfl,h1⟩;have B1:=zz h1;clear h1;go_wp2_with fail;refine (letter_as c _ hcb HL _).mono ?_;rintro e x2 ⟨rfl,rfl⟩;go_wp2_with fail;refine (digit_as c _ hcb HD _).mono ?_;rintro e x3 ⟨rfl,rfl⟩;have hN:=char_any p s i hi hs _ _ B1.out;rw [H1.out,H2.out,H3.out,H4.out] at hN;have q39:(c==39)=true:=by rw [H39.out]; rfl
 go_wp2_with fail;refine (hN).mono ?_;rintro e x4 ⟨he,h1⟩;unfold tokV at he;subst he;have B4:=zz h1;clear h1;obtain ⟨t0,t1,t2,t3,t4,t5,tf⟩:=(HT.out.on B4.out HZ.out HQ.out).cells;go_wp2_with fail;refine bodyPost_ret (v:=.tuple #[tokV K ⟨#[]⟩ V false,.int .i64 C]) (by simp [results,Tryz.results39,go_sem,tokV,t0,t1,t2,t3,t4,t5]) rfl ⟨rfl,?_⟩
 repeat (first | with_reducible refine Sc.setq ?_ HG.out HQ.out _ _ | with_reducible refine Sc.drewN ?_ _)
 exact (HS.out.alloc _).onto B4.out
theorem token_none (p:Nat) (s:ByteArray) (i:Nat) (hi:i≤s.size) (hs:s.size≤4611686018427387904) (c:Int) (HC:Hid (Lx.pk s i=c)) (HL:Hid (Lx.letB c=false)) (HD:Hid (Lx.digB c=false)) (h39:c≠39) (HG2:Hid (Lx.signM (Lx.pk s i) (Lx.pk s (i+1)) (Lx.pk s (i+2))=0)) (w0 w:World) (h:Sc p s i w0 w) :
    Calls Tryz.prog 39 #[.pointer (some ⟨p,0,none⟩)] w (TokPost p s w0 0 ⟨#[]⟩ 0 false 3 i):=by
 have HZ:Hid (w.heap.size < (w.alloc (.cells #[.int .i64 0,.int .i64 0,.string ⟨#[]⟩,.string ⟨#[]⟩,.int .u64 0,.bool false] 83)).heap.size):=zz (by simp);have HT:=zz (TokAt.made w);have HQ:=zz (Nat.ne_of_gt h.lt);have HG:=zz h.g.size;have HS:=zz h;have B0:Hid (Sc p s i (w.alloc (.cells #[.int .i64 0,.int .i64 0,.string ⟨#[]⟩,.string ⟨#[]⟩,.int .u64 0,.bool false] 83)) (w.alloc (.cells #[.int .i64 0,.int .i64 0,.string ⟨#[]⟩,.string ⟨#[]⟩,.int .u64 0,.bool false] 83))):=zz (h.alloc _).refl;clear h;have hcb:=Lx.pk_bd s i;rw [HC.out] at hcb;go_enter Tryz.func39,Tryz.ntmps39;go_wp2_with fail;refine (peek_as p s i i 0 _ (by decide) (by omega) hi hs HC _ _ B0.out).mono ?_;rintro e x1 ⟨rfl,h1⟩;have B1:=zz h1;clear h1;go_wp2_with fail;refine (letter_as c _ hcb HL _).mono ?_;rintro e x2 ⟨rfl,rfl⟩;go_wp2_with fail;refine (digit_as c _ hcb HD _).mono ?_;rintro e x3 ⟨rfl,rfl⟩;have h39':(c==39)=false:=by simpa using h39
 have hN:=sign_any p s i hi hs _ _ B1.out;rw [HG2.out] at hN;go_wp2_with fail;refine hN.mono ?_;rintro e x4 ⟨rfl,h1⟩;have B4:=zz h1;clear h1;obtain ⟨t0,t1,t2,t3,t4,t5,tf⟩:=(HT.out.on B4.out HZ.out HQ.out).cells;go_wp2_with fail;refine bodyPost_ret (v:=.tuple #[tokV 0 ⟨#[]⟩ 0 false,.int .i64 3]) (by simp [results,Tryz.results39,go_sem,tokV,t0,t1,t2,t3,t4,t5]) rfl ⟨rfl,?_⟩
 repeat (first | with_reducible refine Sc.setq ?_ HG.out HQ.out _ _ | with_reducible refine Sc.drewN ?_ _)
 exact (HS.out.alloc _).onto B4.out
theorem token_sign (p:Nat) (s:ByteArray) (i:Nat) (hi:i≤s.size) (hs:s.size≤4611686018427387904) (c:Int) (HC:Hid (Lx.pk s i=c)) (HL:Hid (Lx.letB c=false)) (HD:Hid (Lx.digB c=false)) (h39:c≠39) (n:Nat) (hn:n≠0∧n≤3) (HG2:Hid (Lx.signM (Lx.pk s i) (Lx.pk s (i+1)) (Lx.pk s (i+2))=n)) (w0 w:World) (h:Sc p s i w0 w) :
    Calls Tryz.prog 39 #[.pointer (some ⟨p,0,none⟩)] w (TokPost p s w0 5 ⟨#[]⟩ 0 false 0 (i+n)):=by
 have HZ:Hid (w.heap.size < (w.alloc (.cells #[.int .i64 0,.int .i64 0,.string ⟨#[]⟩,.string ⟨#[]⟩,.int .u64 0,.bool false] 83)).heap.size):=zz (by simp);have HT:=zz (TokAt.made w);have HQ:=zz (Nat.ne_of_gt h.lt);have HG:=zz h.g.size;have HS:=zz h;have B0:Hid (Sc p s i (w.alloc (.cells #[.int .i64 0,.int .i64 0,.string ⟨#[]⟩,.string ⟨#[]⟩,.int .u64 0,.bool false] 83)) (w.alloc (.cells #[.int .i64 0,.int .i64 0,.string ⟨#[]⟩,.string ⟨#[]⟩,.int .u64 0,.bool false] 83))):=zz (h.alloc _).refl;clear h;have hcb:=Lx.pk_bd s i;rw [HC.out] at hcb;go_enter Tryz.func39,Tryz.ntmps39;go_wp2_with fail;refine (peek_as p s i i 0 _ (by decide) (by omega) hi hs HC _ _ B0.out).mono ?_;rintro e x1 ⟨rfl,h1⟩;have B1:=zz h1;clear h1;go_wp2_with fail;refine (letter_as c _ hcb HL _).mono ?_;rintro e x2 ⟨rfl,rfl⟩;go_wp2_with fail;refine (digit_as c _ hcb HD _).mono ?_;rintro e x3 ⟨rfl,rfl⟩;have h39':(c==39)=false:=by simpa using h39
 have hN:=sign_any p s i hi hs _ _ B1.out;rw [HG2.out] at hN;go_wp2_with fail;refine hN.mono ?_;rintro e x4 ⟨rfl,h1⟩;have B4:=zz h1;clear h1;have hn0:((n:Int)==0)=false:=by simpa using hn.1
 have hn1:(n:Int)≤3:=by omega
 have d1:=B4.out.c1;have d2:=B4.out.f 1;have hne:w.heap.size≠p:=HQ.out;have hne2:p≠w.heap.size:=hne.symm;obtain ⟨t0,t1,t2,t3,t4,t5,tf⟩:=(HT.out.on B4.out HZ.out HQ.out).cells;go_wp2_with fail;refine bodyPost_ret (v:=.tuple #[tokV 5 ⟨#[]⟩ 0 false,.int .i64 0]) (by simp [results,Tryz.results39,go_sem,tokV,t0,t1,t2,t3,t4,t5]) rfl ⟨rfl,?_⟩
 repeat (first | with_reducible refine Sc.setq ?_ HG.out HQ.out _ _ | with_reducible refine Sc.drewN ?_ _)
 exact Sc.setI (j:=i+n) ((HS.out.alloc _).onto B4.out) (by omega)
theorem token_any (p:Nat) (s:ByteArray) (i:Nat) (hi:i≤s.size) (hs:s.size≤4611686018427387904) (w0 w:World) (h:Sc p s i w0 w) :
    Calls Tryz.prog 39 #[.pointer (some ⟨p,0,none⟩)] w (RecPost p s w0 (Lx.tokenM s i)):=by
 unfold Lx.tokenM;cases hL:Lx.letB (Lx.pk s i)
 · rw [if_neg (by decide)];cases hD:Lx.digB (Lx.pk s i)
   · rw [if_neg (by decide)];by_cases h39:Lx.pk s i=39
     · rw [if_pos h39];exact token_char p s i hi hs _ (zz rfl) (zz hL) (zz hD) (zz h39) _ _ _ _ (zz rfl) (zz rfl) (zz rfl) (zz rfl) w0 w h
     · rw [if_neg h39];by_cases h0:Lx.signM (Lx.pk s i) (Lx.pk s (i+1)) (Lx.pk s (i+2))=0
       · rw [if_pos h0];exact token_none p s i hi hs _ (zz rfl) (zz hL) (zz hD) h39 (zz h0) w0 w h
       · rw [if_neg h0];exact token_sign p s i hi hs _ (zz rfl) (zz hL) (zz hD) h39 _ ⟨h0,Lx.signM_le _ _ _⟩ (zz rfl) w0 w h
   · rw [if_pos rfl];exact token_number p s i hi hs _ (zz rfl) (zz hL) (zz hD) _ (zz rfl) w0 w h
 · rw [if_pos rfl];exact token_name p s i hi hs _ (zz rfl) (zz hL) _ _ _ (zz rfl) (zz rfl) (zz rfl) w0 w h
end Go.Proofs.YtjgkacggjhobmaaGreatDoor.L
namespace Go.Proofs.YtjgkacggjhobmaaGreatDoor.L
open Go.RowKit
structure WrAt (r:Nat) (w:World):Prop where
 a:w.heap[r]?=some (.cells #[.int .i64 0,.int .i64 0] 34 (0,0))
theorem WrAt.cells {r:Nat} {w:World} (h:WrAt r w):w.cell? ⟨r,0,none⟩=some (.int .i64 0)∧w.cell? ⟨r,1,none⟩=some (.int .i64 0)∧(∀ o,w.frozen? ⟨r,o,none⟩=false):=by
 refine ⟨?_,?_,fun o=>?_⟩ <;> simp [World.cell?,World.frozen?,h.a]
theorem infoT:(Tryz.prog.info? 83).map (fun i=>(i.zero,i.size,i.bytes))=some (some (.agg #[.int .i64 0,.int .i64 0,.string ⟨#[]⟩,.string ⟨#[]⟩,.int .u64 0,.bool false]),6,64):=by kernel_rfl
structure TInv (w:World) (s:ByteArray) (i:Nat) (v:Value) (l:List Lx.Tk) (wr:World):Prop where
 sc:wr.heap[w.heap.size+1]?=some (.cells #[.string s,.int .i64 (i:Int)] 122 (0,0))
 wrg:WrAt w.heap.size wr
 own:wr.ownsRow (w.heap.size+2) 83 6 v l.length (Lx.rowOf l)
 below:Below w.heap.size w wr
section
variable {w wr w':World} {s:ByteArray} {i j:Nat} {v:Value} {l:List Lx.Tk}
theorem TInv.scn (h:TInv w s i v l wr):Sc (w.heap.size+1) s i wr wr:=⟨grown_refl _ _,h.sc⟩
theorem TInv.lt (h:TInv w s i v l wr):w.heap.size+1 < wr.heap.size:=(Array.getElem?_eq_some_iff.1 h.sc).1
theorem TInv.ne (h:TInv w s i v l wr) {k:Nat} (hk:k < w.heap.size+2):v.ownBlock≠some k:=fun e=>by have:=(h.own.lt k e).1; omega
theorem TInv.step (h:TInv w s i v l wr) (k:Sc (w.heap.size+1) s j wr w'):TInv w s j v l w' :=
 ⟨k.a,⟨(k.other (by have:=h.lt; omega) (by omega)).trans h.wrg.a⟩,h.own.kept k.g (.inr (h.ne (by omega))),
  h.below.grown k.g (by have:=h.lt; omega) (fun q e=>by have:w.heap.size+1=q:=by simpa using e
                                                        omega)⟩
theorem TInv.alloc (h:TInv w s i v l wr) (o:Obj):TInv w s i v l (wr.alloc o):=h.step (h.scn.alloc o)
theorem TInv.drewN (h:TInv w s i v l wr) (n:Nat):TInv w s i v l (wr.drewN n):=h.step (h.scn.drewN n)
theorem TInv.drew (h:TInv w s i v l wr):TInv w s i v l wr.drew:=h.step h.scn.drew
theorem TInv.setq (h:TInv w s i v l wr) {q:Nat} (hq:w.heap.size+2≤q) (hv:v.ownBlock≠some q) (o:Nat) (u:Value):TInv w s i v l (wr.setCell ⟨q,o,none⟩ u) :=
 ⟨(Below.heap_setCell _ _ _ _ (by show w.heap.size+1≠q; omega)).trans h.sc,⟨(Below.heap_setCell _ _ _ _ (by show w.heap.size≠q; omega)).trans h.wrg.a⟩,
  ownsRow_setCell_other h.own hv u,h.below.setCell (by show w.heap.size≤q; omega) u⟩
theorem TInv.app {v':Value} {w1:World} {o:Obj} {t:Lx.Tk} (h:TInv w s i v l wr) (hg:(wr.alloc o).grownBy w1 v.ownBlock) (hown:w1.ownsRow (w.heap.size+2) 83 6 v' (l.length+1) (Lx.rowOf l++t.cells)):TInv w s i v' (l++[t]) w1:=by
 have a:=h.alloc o;refine ⟨(hg.block _ a.lt (fun e=>h.ne (by omega) e.symm)).trans a.sc,⟨(hg.block _ (by have:=a.lt; omega) (fun e=>h.ne (by omega) e.symm)).trans a.wrg.a⟩,?_,?_⟩
 · rw [Lx.rowOf_snoc,List.length_append]; exact hown
 · exact a.below.grown hg (by have:=a.lt; omega) (fun q e=>by have:=(h.own.lt q e).1; omega)
theorem TInv.form (h:TInv w s i v l wr):∃ a cap,v=.slice a l.length cap:=by
 rcases h.own.2 with ⟨h1,h2⟩ | ⟨g,cap,cur,h1,_⟩
 · exact ⟨none,0,by rw [h2]; exact h1⟩
 · exact ⟨_,_,h1⟩
end
def TokensPost (w:World) (r:Lx.TkR) (e:Ending) (w':World):Prop :=
 ∃ v,e=.returned (.tuple #[v,.agg #[.int .i64 r.code,.int .i64 r.pos]])∧w'.ownsRow w.heap.size 83 6 v r.l.length (Lx.rowOf r.l)∧Below w.heap.size w w'
theorem post_bad {w w':World} {r:Lx.TkR} {c p:Int} (hr:r=⟨[],c,p⟩) (hb:Below w.heap.size w w'):TokensPost w r (.returned (.tuple #[.slice none 0 0,.agg #[.int .i64 c,.int .i64 p]])) w':=by
 subst hr; exact ⟨_,rfl,World.ownsRow_nil _ _ _ _,hb⟩
theorem tokens_long (s:ByteArray) (h:20000 < s.size) (w:World):Calls Tryz.prog 22 #[.string s] w (TokensPost w (Lx.tokensM s)):=by
 have hr:Lx.tokensM s=⟨[],6,0⟩:=if_pos h;have HR:=zz hr;have h':(20000:Int) < (s.size:Int):=by omega
 clear hr;go_enter Tryz.func22,Tryz.ntmps22;go_wp2_with fail;refine bodyPost_ret (v:=.tuple #[.slice none 0 0,.agg #[.int .i64 6,.int .i64 0]]) (by simp [results,Tryz.results22,go_sem]) rfl (post_bad HR.out ?_)
 repeat (first | exact Below.refl _ _ | with_reducible refine Below.drew ?_ | (with_reducible refine Below.alloc ?_ ?_ _; rotate_left; first | exact Nat.le_refl _ | (simp; done) | (simp; omega)) | (with_reducible refine Below.setCell ?_ ?_ _; rotate_left; first | exact Nat.le_refl _ | (simp; done) | (simp; omega)))
theorem tokens_short (s:ByteArray) (hs:s.size≤20000) (w:World):Calls Tryz.prog 22 #[.string s] w (TokensPost w (Lx.tokensM s)):=by
 have HR:Hid (Lx.tokensM s=Lx.toksM s (s.size+1) 0 []):=zz (if_neg (by omega));have hs':¬ (20000:Int) < (s.size:Int):=by omega
 have hm:s.size≤4611686018427387904:=by omega
 obtain ⟨i0,hi,hz0,hz1,hz2⟩:=info_parts infoT;have I0:Hid (TInv w s 0 (.slice none 0 0) [] ((w.alloc (.cells #[.int .i64 0,.int .i64 0] 34)).alloc (.cells #[.string s,.int .i64 0] 122))):=by
  refine ⟨?_,⟨?_⟩,World.ownsRow_nil _ _ _ _,((Below.refl _ _).alloc (Nat.le_refl _) _).alloc (by simp) _⟩
  · have:=heap_alloc_new (w.alloc (.cells #[.int .i64 0,.int .i64 0] 34)) (.cells #[.string s,.int .i64 0] 122);rw [heap_two] at this; exact this
  · exact (Below.heap_alloc _ _ _ (by simp)).trans (heap_alloc_new w _)
 go_enter Tryz.func22,Tryz.ntmps22;go_wp2_with fail;go_loopg [4] s.size (fun g v wr=>∃ (i f:Nat) (l:List Lx.Tk),i≤s.size∧g=s.size - i∧g < f∧l.length≤6000∧Hid (Lx.tokensM s=Lx.toksM s f i l)∧Hid (TInv w s i v l wr))
 case atStart=>exact ⟨0,s.size+1,[],Nat.zero_le _,rfl,by omega,by decide,HR,I0⟩
 case round =>
  obtain ⟨i,f,l,hi1,hg,hf,hl,HE,T⟩:=hrel;clear HR I0;obtain ⟨f,rfl⟩:∃ f',f=f'+1:=⟨f - 1,by omega⟩;obtain ⟨⟨g,b⟩,hgap⟩:∃ r,Lx.gap s s.size i=r:=⟨_,rfl⟩;have hgb:=Lx.gap_bd (s:=s) s.size i hi1;rw [hgap] at hgb;have hN:=skip_any (w.heap.size+1) s i hi1 hm _ _ T.out.scn;rw [hgap] at hN;have HG:=zz hgap;clear hgap;go_wp2_with fail;refine hN.mono ?_;rintro e w1 ⟨j,he,h1,hj⟩;cases b
  · have he':e=.returned (.tuple #[.int .i64 (g:Int),.bool false]):=he;subst he';have T1:=zz (T.out.step h1);have HE2:=zz (HE.out.trans (Lx.toks_bad HG.out));clear he hN h1 hj HE;obtain ⟨t0,t1,tf⟩:=T1.out.wrg.cells;go_wp2_with fail;refine bodyPost_ret (v:=.tuple #[.slice none 0 0,.agg #[.int .i64 3,.int .i64 (g:Int)]]) (by simp [results,Tryz.results22,go_sem,t0,t1]) rfl (post_bad HE2.out ?_);exact (T1.out.below.setCell (Nat.le_refl _) _).setCell (Nat.le_refl _) _
  · have he':e=.returned (.tuple #[.int .i64 0,.bool true]):=he;subst he';obtain rfl:j=g:=hj rfl;have T1:=zz (T.out.step h1);clear he hN h1 hj T;have d1:=T1.out.scn.c1;by_cases hend:j=s.size
    · have HE2:=zz (HE.out.trans (Lx.toks_end HG.out hend));have hq:((j:Int)==(s.size:Int))=true:=by rw [hend]; exact beq_self_eq_true _
      obtain ⟨t0,t1,tf⟩:=T1.out.wrg.cells;clear HE hend;go_wp2_with fail;refine bodyPost_ret (v:=.tuple #[u4,.agg #[.int .i64 0,.int .i64 0]]) (by simp [results,Tryz.results22,go_sem,t0,t1]) rfl ?_;rw [HE2.out];have hb:Below w.heap.size w _:=(T1.out.below.setCell (p:=⟨w.heap.size,0,none⟩) (Nat.le_refl _) (.int .i64 0)).setCell (p:=⟨w.heap.size,1,none⟩) (Nat.le_refl _) (.int .i64 0);exact ⟨_,rfl,World.ownsRow.mono (ownsRow_setCell_below (ownsRow_setCell_below T1.out.own (by show w.heap.size < _; omega) _) (by show w.heap.size < _; omega) _) (by omega),hb⟩
    · have hlt:j < s.size:=by omega
      have hq:((j:Int)==(s.size:Int))=false:=beq_eq_false_iff_ne.2 (by omega);obtain ⟨r,hr⟩:∃ r,Lx.tokenM s j=r:=⟨_,rfl⟩;have hbd:=Lx.tokenM_bd hlt;have hN:=token_any (w.heap.size+1) s j hgb.2 hm _ _ T1.out.scn;rw [hr] at hbd hN;have HRR:=zz hr;clear hr;obtain ⟨C,E,K,X,V,H⟩:=r;unfold RecPost at hN;obtain ⟨hb1,hb2,hb3,hb4,hb5,hb6⟩:=hbd;simp only at hb1 hb2 hb3 hb4 hb5 hb6 hN;go_wp2_with fail;refine hN.mono ?_;rintro e w2 ⟨he,h1⟩;unfold tokV at he;subst he;have T2:=zz (T1.out.step h1);clear hN h1 d1;by_cases hC:C=0
      · subst hC;by_cases h6:l.length=6000
        · have HE2:=zz (HE.out.trans (Lx.toks_many HG.out hend (by rw [HRR.out]) h6));obtain ⟨a4,cap4,hf4⟩:=T2.out.form;rw [h6] at hf4;obtain ⟨t0,t1,tf⟩:=(T2.out.alloc (.cells #[.int .i64 K,.int .i64 0,.string ⟨#[]⟩,.string X,.int .u64 V,.bool H] 83)).wrg.cells;have T3:=zz (T2.out.alloc (.cells #[.int .i64 K,.int .i64 0,.string ⟨#[]⟩,.string X,.int .u64 V,.bool H] 83));clear HE T1 T2;subst hf4;go_wp2_with fail;refine bodyPost_ret (v:=.tuple #[.slice none 0 0,.agg #[.int .i64 6,.int .i64 (j:Int)]]) (by simp [results,Tryz.results22,go_sem,t0,t1]) rfl (post_bad HE2.out ?_);exact (T3.out.below.setCell (Nat.le_refl _) _).setCell (Nat.le_refl _) _
        · have HE2:=zz (HE.out.trans (Lx.toks_more HG.out hend (by rw [HRR.out]) h6));have hjE:j < E:=hb1 rfl;obtain ⟨a4,cap4,hf4⟩:=T2.out.form;have h6':((l.length:Int)==6000)=false:=beq_eq_false_iff_ne.2 (by omega);have hd:∀ o:Obj,(w2.alloc o).cell? ⟨w.heap.size+1,1,none⟩=some (.int .i64 (E:Int)):=fun o=>(T2.out.alloc o).scn.c1
          clear HE T1 hb1;subst hf4;have hj1:(j:Int)≤(E:Int):=by omega
          have hj2:(E:Int)≤(s.size:Int):=by omega
          go_upto_region 16 with fail
          go_cut [] (fun wx=>TInv w s E (.slice a4 l.length cap4) l wx∧TokG w2.heap.size K (j:Int) (s.extract j E) X V H wx)
          case first =>
           go_region
           all_goals (go_wp2_with fail; go_meet)
           all_goals exact ⟨(T2.out.alloc _).drew,⟨heap_alloc_new w2 _⟩⟩
          case rest =>
           obtain ⟨T5,G5⟩:=hcut;have T5:=zz T5;obtain ⟨g0,g1,g2,g3,g4,g5,gf⟩:=G5.cells;clear hd hj1 hj2 h6' G5;have hsz:=T5.out.lt;go_wp2_with (at_builtin; refine wpList_append_own _ rfl _ _ 79 rfl (w.heap.size+2) 83 i0 (.agg #[.int .i64 0,.int .i64 0,.string ⟨#[]⟩,.string ⟨#[]⟩,.int .u64 0,.bool false]) 6 64 Tryz.underlying79 hi hz0 hz1 hz2 rfl (by decide) _ _ _ rfl (T5.out.own.alloc _) ⟨_,0,none⟩ 1 1 [.int .i64 K,.int .i64 (j:Int),.string (s.extract j E),.string X,.int .u64 V,.bool H] rfl rfl ?a1 ?b1 (by unfold maxLen; omega) (by omega) (by simp; omega) ?_)
           case a1 =>
            intro q u hq
            match q,hq with
            | 0,hq=>simp at hq; subst hq; simp [Addr.add]
            | 1,hq=>simp at hq; subst hq; simp [Addr.add]
            | 2,hq=>simp at hq; subst hq; simp [Addr.add]
            | 3,hq=>simp at hq; subst hq; simp [Addr.add]
            | 4,hq=>simp at hq; subst hq; simp [Addr.add]
            | 5,hq=>simp at hq; subst hq; simp [Addr.add]
           case b1=>intro u hu; simp at hu; rcases hu with rfl | rfl | rfl | rfl | rfl | rfl <;> rfl
           intro v' w4 hown' hgrow _;have T6:=zz (T5.out.app (t:=⟨K,j,s.extract j E,X,V,H⟩) hgrow hown');clear hgrow hown' g0 g1 g2 g3 g4 g5 gf;go_wp2;go_roundg (s.size - E)
           case rel =>
            refine ⟨E,f,l++[⟨K,j,s.extract j E,X,V,H⟩],hb2,rfl,by omega,by rw [List.length_append]; simp; omega,?_,T6⟩;rw [HE2.out,HRR.out]; exact zz rfl
           case measure=>omega
      · have HE2:=zz (HE.out.trans (Lx.toks_wrong HG.out hend (by rw [HRR.out]; exact hC)));rw [HRR.out] at HE2;have q1:(C==0)=false:=beq_eq_false_iff_ne.2 hC;have q2:(C != 0)=true:=bne_iff_ne.2 hC;have T3:=zz (T2.out.alloc (.cells #[.int .i64 K,.int .i64 0,.string ⟨#[]⟩,.string X,.int .u64 V,.bool H] 83));obtain ⟨t0,t1,tf⟩:=T3.out.wrg.cells;clear HE T1 T2 hb1;go_wp2_with fail;refine bodyPost_ret (v:=.tuple #[.slice none 0 0,.agg #[.int .i64 C,.int .i64 (j:Int)]]) (by simp [results,Tryz.results22,go_sem,t0,t1]) rfl (post_bad HE2.out ?_);exact (T3.out.below.setCell (Nat.le_refl _) _).setCell (Nat.le_refl _) _
end Go.Proofs.YtjgkacggjhobmaaGreatDoor.L
namespace Go.Proofs.YtjgkacggjhobmaaGreatDoor
open Go.RowKit Lx
structure LI (w:World) (B:Nat) (sa:Option Addr) (sc n:Nat) (av:List (Option Addr)) (is:List Sy.It):Prop where
 nn:n=av.length
 len:av.length=is.length
 sub:∀ (i:Nat) (a:Option Addr) (e:Sy.It),av[i]?=some a→is[i]?=some e→ItD w (fun q=>B≤q∧(Value.slice sa n sc).ownBlock≠some q) a e
section
variable {w w' v2 v3:World} {K:Pk} {τ:Sy.St} {B:Nat} {sa:Option Addr} {sc n:Nat} {av:List (Option Addr)} {is:List Sy.It}
theorem LI.bare:LI w B none 0 0 [] []:=⟨rfl,rfl,fun i a s ha=>by cases ha⟩
theorem LI.atI (h:LI w B sa sc n av is) (hk:AtI w w' K τ) (hB:K.B≤B):LI w' B sa sc n av is :=
 ⟨h.nn,h.len,fun i a e ha he=>(h.sub i a e ha he).keep hk.k (fun q e2=>.inl (fun h2=>by have:=hk.p.ord; have:=h2.1; rcases e2 with e2 | e2 <;> omega))⟩
theorem LI.no (h:LI w B sa sc n av is) (hk:Keeps No w w'):LI w' B sa sc n av is:=⟨h.nn,h.len,fun i a e ha he=>(h.sub i a e ha he).keep hk (fun q e=>e.elim)⟩
theorem LI.push {g' cap:Nat} {a2:Option Addr} {s2:Sy.It} (h:LI v2 B sa sc n av is) (hk:Keeps (fun q=>(Value.slice sa n sc).ownBlock=some q) v2 v3)
    (hg:(Value.slice sa n sc).ownBlock=some g'∨v2.heap.size≤g') (h2:ItD v2 (fun q=>B≤q∧(Value.slice sa n sc).ownBlock≠some q) a2 s2) :
    LI v3 B (some ⟨g',0,none⟩) cap (n+1) (av++[a2]) (is++[s2]):=by
 have l1:∀ q,q < v2.heap.size→(B≤q∧(Value.slice sa n sc).ownBlock≠some q)→(B≤q∧(Value.slice sa n sc).ownBlock≠some q)∧q≠g':=fun q hq hd=>⟨hd,fun e=>by
     rcases hg with hg | hg
     · exact hd.2 (by rw [e]; exact hg)
     · omega⟩
 have l2:∀ q,(Value.slice sa n sc).ownBlock=some q→¬ ((B≤q∧(Value.slice sa n sc).ownBlock≠some q)∧q≠g')∨v2.heap.size≤q:=fun q e=>.inl (fun hd=>hd.1.2 e)
 have l4:∀ q,(B≤q∧(Value.slice sa n sc).ownBlock≠some q)∧q≠g'→(B≤q∧(Value.slice (some ⟨g',0,none⟩) (n+1) cap).ownBlock≠some q):=fun q hd=>⟨hd.1.1,fun e=>by
     have e1:g'=q:=by injection e
     exact hd.2 e1.symm⟩
 have oneS:∀ a e,ItD v2 (fun q=>B≤q∧(Value.slice sa n sc).ownBlock≠some q) a e→ItD v3 (fun q=>B≤q∧(Value.slice (some ⟨g',0,none⟩) (n+1) cap).ownBlock≠some q) a e:=fun a e hx =>
  ((hx.mono l1).keep hk l2).mono (fun q _ hd=>l4 q hd)
 refine ⟨by rw [List.length_append,← h.nn]; rfl,by rw [List.length_append,List.length_append,h.len]; rfl,fun i a e ha he=>?_⟩;by_cases hi:i < av.length
 · rw [List.getElem?_append_left hi] at ha;rw [List.getElem?_append_left (by rw [← h.len]; exact hi)] at he;exact oneS a e (h.sub i a e ha he)
 · rw [List.getElem?_append_right (by omega)] at ha;rw [List.getElem?_append_right (by rw [← h.len]; omega),← h.len] at he;cases hj:i - av.length with
   | zero =>
     rw [hj] at ha he;obtain rfl:a2=a:=by simpa using ha
     obtain rfl:s2=e:=by simpa using he
     exact oneS _ _ h2
   | succ j=>rw [hj] at ha; cases ha
end
theorem infoPI:(Tryz.prog.info? 69).map (fun i=>(i.zero,i.size,i.bytes))=some (some (.pointer none),1,8):=by kernel_rfl
theorem wpList_appI (w:World) {ops:Array Oper} {rest:List Oper} {o:Oper} {a:Act} {Q:Exit→Act→World→Prop} (hgd:o.guard=none) (s x:Operand)
    (ho:o.op=.call { callee:=.builtin .append,args:=#[s,x],argTypes:=#[65,65] })
    (B:Nat) (v:Value) (n:Nat) (xs:List Value) (u:Option Addr) (q:Nat) (hs:a.eval s=v) (hown:w.ownsRow B 69 1 v n xs) (hx:a.eval x=.slice (some ⟨q,0,none⟩) 1 1) (hq:w.heap[q]?=some (.cells #[.pointer u] 69 (0,0)))
    (hn:n≤999999) (hB:B≤w.heap.size)
    (h:∀ g' cap w',w'.ownsRow B 69 1 (.slice (some ⟨g',0,none⟩) (n+1) cap) (n+1) (xs++[.pointer u])→w.grownBy w' v.ownBlock→(v.ownBlock=some g'∨w.heap.size≤g')→wpList Tryz.prog ops Q rest (a.put o.dst (.slice (some ⟨g',0,none⟩) (n+1) cap)) w'):wpList Tryz.prog ops Q (o::rest) a w:=by
 obtain ⟨i0,hi,hz0,hz1,hz2⟩:=info_parts infoPI;refine wpList_append_lies w hgd s x _ ho B 69 i0 (.pointer none) 1 8 Tryz.underlying65 hi hz0 hz1 hz2 rfl (by decide) v n xs hs hown ⟨q,0,none⟩ 1 1 [.pointer u] hx rfl (fun j y hy=>?_) (fun y hy=>by simp at hy; subst hy; rfl) (by decide) (by unfold maxLen; omega) (by omega) hB _ rfl (fun g' cap w' k1 k2 k3 _=>h g' cap w' k1 k2 (k3.imp id (fun e=>by omega)));cases j with
 | zero=>obtain rfl:Value.pointer u=y:=by simpa using hy
         have e:(⟨q,0,none⟩:Addr).add 0=⟨q,0,none⟩:=by unfold Addr.add; split <;> simp_all
         rw [e]; unfold World.cell?; simp only; rw [hq]; rfl
 | succ j=>cases hy
def Stop (p:Prop):Prop:=p
theorem stop_here {p:Prop} (h:Stop p):p:=h
theorem tok_cell:∀ (l:List Tk) (i:Nat) (t:Tk) (j:Nat) (v:Value),l[i]?=some t→t.cells[j]?=some v→(Lx.rowOf l)[i * 6+j]?=some v
 | [],i,y,j,v,h,_=>by cases h
 | a::t,0,y,j,v,h,hj=>by
   injection h with h; subst h;have hjl:j < a.cells.length:=(List.getElem?_eq_some_iff.1 hj).1;unfold Lx.rowOf;rw [Nat.zero_mul,Nat.zero_add,List.flatMap_cons,List.getElem?_append_left hjl];exact hj
 | a::t,i+1,y,j,v,h,hj=>by
   have e:a.cells.length=6:=rfl;unfold Lx.rowOf;rw [List.flatMap_cons,List.getElem?_append_right (by omega),e,show (i+1) * 6+j - 6=i * 6+j by omega];exact tok_cell t i y j v h hj
theorem tokens_any (s:ByteArray) (w:World):Calls Tryz.prog 22 #[.string s] w (L.TokensPost w (Lx.tokensM s)):=by
 by_cases h:20000 < s.size
 · exact L.tokens_long s h w
 · exact L.tokens_short s (by omega) w
def ParsePost (w:World) (r:Sy.PR) (e:Ending) (w':World):Prop :=
 ∃ (sa:Option Addr) (sc:Nat) (av:List (Option Addr)),e=.returned (.tuple #[.slice sa av.length sc,.agg #[.int .i64 r.code,.int .i64 r.at_]])∧Keeps No w w' ∧
   RwD w' (fun q=>q < w'.heap.size) 69 1 (.slice sa av.length sc) av.length (ptrs av)∧av.length=r.items.length ∧
   (∀ (k:Nat) (a:Option Addr) (i:Sy.It),av[k]?=some a→r.items[k]?=some i→ItD w' (fun q=>q < w'.heap.size) a i)
theorem parse_none {w w':World} {c p:Int} (hk:Keeps No w w'):ParsePost w ⟨[],c,p⟩ (.returned (.tuple #[.slice none 0 0,.agg #[.int .i64 c,.int .i64 p]])) w' :=
 ⟨none,0,[],rfl,hk,RwD.nil _ _ _ _ 0,rfl,fun k a i h=>by cases h⟩
theorem parse_any (s:ByteArray) (w:World) (hl:LaidP w) (hp:Sy.parseOk s=true):Calls Tryz.prog 16 #[.string s] w (ParsePost w (Sy.parseM s)):=by
 have HL:=zz hl;unfold Sy.parseOk at hp;rw [Bool.and_eq_true,Bool.and_eq_true,decide_eq_true_eq] at hp;obtain ⟨⟨hsz,hln⟩,htk,hpp⟩:=hp;have HTK:=zz (tokens_any s);obtain ⟨tr,htr⟩:∃ r,tokensM s=r:=⟨_,rfl⟩;obtain ⟨l,tc,tp⟩:=tr;have HPM:Hid (Sy.parseM s=if tc≠0 then ⟨[],tc,tp⟩ else if (Sy.itemsOf s).2.code≠0 then ⟨[],(Sy.itemsOf s).2.code,(Sy.itemsOf s).2.wat⟩ else if Sy.depthM (Sy.itemsOf s).1 > 40 then ⟨[],5,0⟩ else ⟨(Sy.itemsOf s).1,0,0⟩):=zz (by
  unfold Sy.parseM Sy.itemsOf; simp only [htr])
 have HIO:Hid (Sy.itemsOf s=Sy.itemsM ⟨l,s.size⟩ (l.length+1) ⟨0,[],0,0⟩ []):=zz (by unfold Sy.itemsOf; rw [htr]);rw [htr] at HTK hln htk hpp;simp only at hln htk hpp;have HT:=zz htk;have HLN:=zz hln;have HPP:=zz hpp;have HSZ:=zz hsz;obtain ⟨ss,hss⟩:∃ n,s.size=n:=⟨_,rfl⟩;clear hl htk hpp htr hln;rw [hss] at hsz;go_enter Tryz.func16,Tryz.ntmps16;go_upto_region 1 with fail
 obtain ⟨w1,hw1⟩:∃ W,w.alloc (.cells #[.int .i64 0,.int .i64 0] 34)=W:=⟨_,rfl⟩;obtain ⟨R,hRR⟩:∃ R,w.heap.size=R:=⟨_,rfl⟩;have r1:w1.heap[R]?=some (.cells #[.int .i64 0,.int .i64 0] 34 (0,0)):=by rw [← hw1,← hRR]; exact heap_alloc_new _ _
 have HK1:Hid (Keeps No w w1):=zz (by rw [← hw1]; exact (Keeps.refl _ _).alloc _);have HRW:Hid (w.heap.size≤R):=zz (by omega);rw [hw1,hRR];have HR1:=zz r1;clear hw1 hRR r1;go_wp2_with fail;refine (HTK.out w1).mono ?_;rintro e w2 ⟨v,rfl,hown,hbel⟩;simp only at hown ⊢;have hk2:Keeps No w1 w2:=Keeps.of_below hbel;have HK2:Hid (Keeps No w w2):=zz (HK1.out.trans hk2 (fun _ _ e=>e));have HR2:Hid (w2.heap[R]?=some (.cells #[.int .i64 0,.int .i64 0] 34 (0,0))):=zz ((hk2.block _ (Array.getElem?_eq_some_iff.1 HR1.out).1 (fun e=>e)).trans HR1.out);have HOW:=zz hown;obtain ⟨ta,tcap,rfl,hta⟩:=own_form hown;have HTA:=zz hta;clear hown hbel hk2 hta HK1 HR1 HTK;go_upto_region 2 with fail
 have hv:(w2.alloc (.cells #[.int .i64 tc,.int .i64 tp] 34)).heap[w2.heap.size]?=some (.cells #[.int .i64 tc,.int .i64 tp] 34 (0,0)):=heap_alloc_new _ _;have hk3:Keeps No w2 (w2.alloc (.cells #[.int .i64 tc,.int .i64 tp] 34)):=(Keeps.refl _ _).alloc _;generalize w2.alloc (.cells #[.int .i64 tc,.int .i64 tp] 34)=w3 at hv hk3 ⊢;obtain ⟨R5,hR5⟩:∃ q,w2.heap.size=q:=⟨_,rfl⟩;have HRN:Hid (R5≠R):=zz (by have:=(Array.getElem?_eq_some_iff.1 HR2.out).1; omega);rw [hR5] at hv ⊢;have HK3:Hid (Keeps No w w3):=zz (HK2.out.trans hk3 (fun _ _ e=>e));have HR3:Hid (w3.heap[R]?=some (.cells #[.int .i64 0,.int .i64 0] 34 (0,0))):=zz ((hk3.block _ (Array.getElem?_eq_some_iff.1 HR2.out).1 (fun e=>e)).trans HR2.out);have HOW3:Hid (w3.ownsRow w1.heap.size 83 6 (.slice ta l.length tcap) l.length (Lx.rowOf l)):=zz (own_kept HOW.out (fun q hq=>hk3.block q (own_ltb HOW.out hq) (fun e=>e)));have HV3:=zz hv;have d0:w3.cell? ⟨R5,0,none⟩=some (.int .i64 tc):=by rw [cell_of_row w3 R5 0 _ _ _ hv]; rfl
 have d1:w3.cell? ⟨R5,1,none⟩=some (.int .i64 tp):=by rw [cell_of_row w3 R5 1 _ _ _ hv]; rfl
 clear hv hk3 hR5 HOW HR2;by_cases hc:tc=0
 · subst hc;have HPZ:Hid (Sy.parseM s=if (Sy.itemsOf s).2.code≠0 then ⟨[],(Sy.itemsOf s).2.code,(Sy.itemsOf s).2.wat⟩ else if Sy.depthM (Sy.itemsOf s).1 > 40 then ⟨[],5,0⟩ else ⟨(Sy.itemsOf s).1,0,0⟩):=zz (by rw [HPM.out,if_neg (by decide)]);clear d1 HPM;have HM4:Hid (∀ (o:Obj),Keeps No w ((w3.alloc (.map #[] 0)).alloc o)):=zz (fun o=>(HK3.out.alloc _).alloc _);have hmm:=@run_makeMap Tryz.prog;go_upto_region 5 with fail
   clear hmm;have hpb:((w3.alloc (.map #[] 0)).alloc (.cells #[.slice ta l.length tcap,.int .i64 0,.int .i64 (ss:Int),.map (some w3.heap.size),.int .i64 0,.int .i64 0] 88)).heap[w3.heap.size+1]?=some (.cells #[.slice ta l.length tcap,.int .i64 0,.int .i64 (ss:Int),.map (some w3.heap.size),.int .i64 0,.int .i64 0] 88 (0,0)):=by
    rw [show w3.heap.size+1=(w3.alloc (.map #[] 0)).heap.size by simp]; exact heap_alloc_new _ _
   have hmb:=(Names.made w3).block (Below.heap_alloc (w3.alloc (.map #[] 0)) (.cells #[.slice ta l.length tcap,.int .i64 0,.int .i64 (ss:Int),.map (some w3.heap.size),.int .i64 0,.int .i64 0] 88) w3.heap.size (by simp));have hk4:=((Keeps.refl No w3).alloc (.map #[] 0)).alloc (.cells #[.slice ta l.length tcap,.int .i64 0,.int .i64 (ss:Int),.map (some w3.heap.size),.int .i64 0,.int .i64 0] 88);have hsz4:((w3.alloc (.map #[] 0)).alloc (.cells #[.slice ta l.length tcap,.int .i64 0,.int .i64 (ss:Int),.map (some w3.heap.size),.int .i64 0,.int .i64 0] 88)).heap.size=w3.heap.size+2:=by simp
   generalize (w3.alloc (.map #[] 0)).alloc (.cells #[.slice ta l.length tcap,.int .i64 0,.int .i64 (ss:Int),.map (some w3.heap.size),.int .i64 0,.int .i64 0] 88)=w4 at hpb hmb hk4 hsz4 ⊢;clear HM4 d0;obtain ⟨K,hK⟩:∃ K:Pk,K=⟨w3.heap.size+1,w3.heap.size,w3.heap.size+2,ta,tcap,⟨l,ss⟩⟩:=⟨_,rfl⟩;have hT:=HT.out;have hPS:PS w4 K ⟨0,[],0,0⟩:=by
    subst hK;refine ⟨hpb,fun i t hi=>?_,hmb,Nat.zero_le _,HLN.out,hsz,fun t ht=>?_,⟨by show w3.heap.size+1≠w3.heap.size; omega,by show w3.heap.size+1 < w3.heap.size+2; omega,by show w3.heap.size < w3.heap.size+2; omega,by show w3.heap.size+2≤w4.heap.size; omega⟩⟩
    · have hi':i < l.length:=(List.getElem?_eq_some_iff.1 hi).1;obtain ⟨g,hg⟩:=HTA.out (by omega);subst hg;have hgl:g < w3.heap.size:=own_ltb HOW3.out rfl;refine ⟨g,rfl,⟨by show g≠w3.heap.size+1; omega,by show g < w3.heap.size+2; omega⟩,fun j v hj=>?_⟩;have e:=HOW3.out.cells (g:=g) rfl (i * 6+j) v (tok_cell l i t j v hi hj);rw [Lib.add_plain,Nat.zero_add] at e;exact hk4.cell0 e
    · have e:=List.all_eq_true.1 hT t ht;unfold Sy.tkOk at e;rw [decide_eq_true_eq] at e;exact e
   have HPS:=zz hPS;have eP:K.P=w3.heap.size+1:=by rw [hK]
   have eB:K.B=w3.heap.size+2:=by rw [hK]
   have eC:K.C=⟨l,s.size⟩:=by rw [hK,hss]
   have eTA:K.ta=ta:=by rw [hK]
   have eTC:K.tc=tcap:=by rw [hK]
   have HK4:Hid (Keeps No w w4):=zz (HK3.out.trans hk4 (fun _ _ e=>e));have HR4:Hid (w4.heap[R]?=some (.cells #[.int .i64 0,.int .i64 0] 34 (0,0))):=zz ((hk4.block _ (Array.getElem?_eq_some_iff.1 HR3.out).1 (fun e=>e)).trans HR3.out);have HBW:Hid (K.B≤w4.heap.size∧w.heap.size≤K.B∧R≠K.P∧R≠K.MB∧R < K.B∧w.heap.size≤K.P∧w.heap.size≤K.MB):=zz (by
    have h1:=HK3.out.size;have h2:=(Array.getElem?_eq_some_iff.1 HR3.out).1;have eM:K.MB=w3.heap.size:=by rw [hK]
    refine ⟨?_,?_,?_,?_,?_,?_,?_⟩ <;> omega)
   have HIK:Hid (Sy.itemsOf s=Sy.itemsM K.C (K.C.T.length+1) ⟨0,[],0,0⟩ []):=zz (by rw [HIO.out,eC]);obtain ⟨rL,hrL⟩:∃ r,Sy.itemsOf s=r:=⟨_,rfl⟩;rw [hrL] at HIK HPZ HPP;obtain ⟨iL,χL⟩:=rL;simp only at HPZ HPP;have hKn:l.length=K.C.T.length:=by rw [eC]
   rw [← eP];have HB40:Hid (K.B=w4.heap.size):=zz (by omega);clear hpb hmb hk4 hsz4 hPS hT HR3 HOW3 HV3 HTA HIO hrL HT;clear hK;have HLW:=zz (HL.out.no HK4.out);have HN6:Hid (K.C.T.length≤6000):=zz (by have:=HLN.out; omega);have HB4:Hid (K.B=w4.heap.size):=HB40;clear eP eC eTA eTC hKn eB;go_wp2_with fail;go_loopg [7] (rem K ⟨0,[],0,0⟩) (fun m v wr=>∃ (g n:Nat) (sa:Option Addr) (sc:Nat) (av:List (Option Addr)) (is:List Sy.It) (χ:Sy.St),v=.slice sa n sc∧m=rem K χ∧Hid (Sy.itemsM K.C g χ is=(iL,χL)∧rem K χ+1≤g∧n+rem K χ≤6000∧χ.types.length+rem K χ≤6000)∧Hid (AtI w4 wr K χ)∧Hid (wr.ownsRow K.B 69 1 (.slice sa n sc) n (ptrs av))∧Hid (χ.code=0→LI wr K.B sa sc n av is))
   case atStart=>exact ⟨K.C.T.length+1,0,none,0,[],[],⟨0,[],0,0⟩,rfl,rfl,zz ⟨HIK.out.symm,by unfold rem; omega,by have:=HN6.out; unfold rem; omega,by have:=HN6.out; unfold rem; simp; exact this⟩,zz ⟨HPS.out,Keeps.refl _ _⟩,zz (World.ownsRow_nil _ _ _ _),zz (fun _=>LI.bare)⟩
   case round =>
    obtain ⟨g,n,sa,sc,av,is,χ,rfl,hg,HE,HAR,HOR,HLR⟩:=hrel;obtain ⟨g,rfl⟩:∃ q,g=q+1:=⟨g - 1,by have:=HE.out.2.1; omega⟩;obtain ⟨tn,htn⟩:∃ q,K.C.T.length=q:=⟨_,rfl⟩;have y0:wr.cell? ⟨K.P,0,none⟩=some (.slice K.ta tn K.tc):=by rw [← htn]; exact HAR.out.p.c (j:=0) rfl
    have y1:wr.cell? ⟨K.P,1,none⟩=some (.int .i64 (χ.at_:Int)):=HAR.out.p.c (j:=1) rfl;by_cases hlt:χ.at_ < K.C.T.length
    · have hlt1:(χ.at_:Int) < (tn:Int):=by omega
      obtain ⟨hgo,hmi⟩:=Sy.item_mi (C:=K.C) hlt;obtain ⟨r1,hr1⟩:∃ r,Sy.itemM K.C χ=r:=⟨_,rfl⟩;have HCI:Hid (Calls Tryz.prog 24 #[.pointer (some ⟨K.P,0,none⟩)] wr (ItPost wr K (Sy.itemM K.C χ))):=zz (item_any K χ wr HAR.out.p hlt (by have:=HE.out.2.2.2; omega));have HE2:Hid (Sy.itemsM K.C g r1.2 (is++[r1.1])=(iL,χL)∧rem K r1.2+1≤g∧n+1+rem K r1.2≤6000∧r1.2.types.length+rem K r1.2≤6000):=zz (by
       obtain ⟨h6,h7,h8,h9⟩:=HE.out;unfold Sy.itemsM at h6;rw [if_pos hlt] at h6;simp only [hr1] at h6;rw [hr1] at hgo hmi;have h10:=hmi.ty;have h11:=hmi.le;unfold rem at h7 h8 h9 ⊢;exact ⟨h6,by omega,by omega,by omega⟩)
      have HMS:Hid (rem K r1.2 < rem K χ):=zz (by
       rw [hr1] at hgo hmi;have h11:=hmi.le;unfold rem; omega)
      have HCD:Hid (r1.2.code=0→χ.code=0):=zz (by rw [hr1] at hmi; exact hmi.code);rw [hr1] at HCI;obtain ⟨i1,χ1⟩:=r1;simp only at HE2 HMS HCD HCI;clear hgo hmi hr1 htn hlt;go_wp2_with fail;refine HCI.out.mono ?_;rintro e w5 ⟨a1,rfl,hat,hit⟩;simp only at hat hit;have HA5:=zz (HAR.out.trans hat);have HO5:Hid (w5.ownsRow K.B 69 1 (.slice sa n sc) n (ptrs av)):=zz (own_kept HOR.out (fun q hq=>hat.k.block q (own_ltb HOR.out hq) (fun e=>by
       have h1:=own_lo HOR.out q hq;have h2:=HPS.out.ord;rcases e with e | e <;> omega)))
      have HL5:Hid (χ1.code=0→LI w5 K.B sa sc n av is):=zz (fun hc=>(HLR.out (HCD.out hc)).atI hat (Nat.le_refl _));have HI5:Hid (χ1.code=0→ItD w5 (fun q=>K.B≤q∧(Value.slice sa n sc).ownBlock≠some q) a1 i1):=zz (fun hc=>ItD.mono (hit hc) (fun q _ hd=>by
       have h1:wr.heap.size≤q:=hd;refine ⟨by have:=HAR.out.p.ord.2.2.2; omega,fun e=>?_⟩;have:=own_ltb HOR.out e;omega))
      clear hat hit HLR HOR y0 y1;go_wp2_with (at_builtin; refine stop_here ?_);unfold Stop;have hk6:Keeps No w5 (w5.alloc (.cells #[.pointer a1] 69)):=(Keeps.refl _ _).alloc _;have hq6:(w5.alloc (.cells #[.pointer a1] 69)).heap[w5.heap.size]?=some (.cells #[.pointer a1] 69 (0,0)):=heap_alloc_new _ _;generalize w5.alloc (.cells #[.pointer a1] 69)=w6 at hk6 hq6 ⊢;have HA6:=zz (HA5.out.no hk6);have HO6:Hid (w6.ownsRow K.B 69 1 (.slice sa n sc) n (ptrs av)):=zz (own_kept HO5.out (fun q hq=>hk6.block q (own_ltb HO5.out hq) (fun e=>e)));have HL6:Hid (χ1.code=0→LI w6 K.B sa sc n av is∧ItD w6 (fun q=>K.B≤q∧(Value.slice sa n sc).ownBlock≠some q) a1 i1):=zz (fun hc=>⟨(HL5.out hc).no hk6,(HI5.out hc).keep hk6 (fun q e=>e.elim)⟩);have HQ6:=zz hq6;clear hk6 hq6 HL5 HI5 HO5 HA5;go_wp2_with (at_builtin; refine wpList_appI _ rfl (.tmp 28) (.tmp 30) rfl K.B (.slice sa n sc) n (ptrs av) a1 w5.heap.size rfl HO6.out rfl HQ6.out (by have:=HE.out.2.2.1; omega) HA6.out.p.ord.2.2.2 ?_);intro g' cap' w7 ho7 hg7 hgo;have hk7:Keeps (fun q=>(Value.slice sa n sc).ownBlock=some q) w6 w7:=(Keeps.refl _ _).grown hg7 (fun q e=>.inl e);have HA7:Hid (AtI w4 w7 K χ1):=zz ⟨HA6.out.p.keepR hk7 (fun q e=>own_lo HO6.out q e),HA6.out.k.trans hk7 (fun q hq e=>by have:=own_lo HO6.out q e; have:=HB4.out; omega)⟩;have HO7:Hid (w7.ownsRow K.B 69 1 (.slice (some ⟨g',0,none⟩) (n+1) cap') (n+1) (ptrs (av++[a1]))):=zz (by
       have e:ptrs (av++[a1])=ptrs av++[.pointer a1]:=by unfold ptrs; rw [List.map_append]; rfl
       rw [e]; exact ho7)
      have HL7:Hid (χ1.code=0→LI w7 K.B (some ⟨g',0,none⟩) cap' (n+1) (av++[a1]) (is++[i1])):=zz (fun hc=>(HL6.out hc).1.push hk7 hgo (HL6.out hc).2);clear ho7 hg7 hgo hk7;go_wp2_with fail;go_roundg (rem K χ1)
      case rel=>exact ⟨g,n+1,some ⟨g',0,none⟩,cap',av++[a1],is++[i1],χ1,rfl,rfl,HE2,HA7,HO7,HL7⟩
      case measure=>rw [hg]; exact HMS.out
    · have hlt1:¬ (χ.at_:Int) < (tn:Int):=by omega
      obtain ⟨e1,e2⟩:is=iL∧χ=χL:=by
       have h6:=HE.out.1;unfold Sy.itemsM at h6;rw [if_neg hlt] at h6;exact ⟨by injection h6,by injection h6⟩
      subst e1 e2;have HLX:Hid (LaidP wr):=zz (HLW.out.keep HAR.out.k (fun e=>by
       have h1:=HL.out.blk;have h2:=HBW.out;rcases e with e | e <;> omega))
      have HKX:Hid (Keeps No w wr):=zz (HK4.out.trans HAR.out.k (fun q hq e=>by
       have h2:=HBW.out;rcases e with e | e <;> omega))
      have HRX:Hid (wr.heap[R]?=some (.cells #[.int .i64 0,.int .i64 0] 34 (0,0))):=zz ((HAR.out.k.block _ (Array.getElem?_eq_some_iff.1 HR4.out).1 (fun e=>by
       have h2:=HBW.out;rcases e with e | e <;> omega)).trans HR4.out)
      have y4:wr.cell? ⟨K.P,4,none⟩=some (.int .i64 χ.code):=HAR.out.p.c (j:=4) rfl;clear hlt htn HIK;by_cases hc:χ.code=0
      · obtain ⟨cc,hcc⟩:∃ c,χ.code=c:=⟨_,rfl⟩;have HLI:=zz (HLR.out hc);obtain rfl:=HLI.out.nn;have hpp:=HPP.out;rw [if_neg (by decide),if_neg (fun h=>h hc),Bool.and_eq_true,Bool.and_eq_true,List.all_eq_true,List.all_eq_true] at hpp;obtain ⟨hok,hsz1,-⟩:=hpp;have HDP:=zz (fun d (hd:Sy.depthM is=d)=>hd ▸ depth_any wr sa sc av is HLX.out ((RwD.of HOR.out).mono (fun q hq _=>hq)) HLI.out.len (fun k a i ha hi=>(HLI.out.sub k a i ha hi).mono (fun q hq _=>hq)) hok (fun i hi x h1 h2=>by
         have e:=(Sy.it_sim i (x:=x) (y:=⟨Sy.nt,0,0,true⟩) ⟨h1,h2⟩ (hok i hi)).1;rw [e];have e2:=hsz1 i hi;rw [decide_eq_true_eq] at e2;exact e2))
        have HPX:Hid (Sy.parseM s=if Sy.depthM is > 40 then ⟨[],5,0⟩ else ⟨is,0,0⟩):=zz (by rw [HPZ.out,if_neg (fun h=>h hc)]);obtain ⟨d,hd⟩:∃ d,Sy.depthM is=d:=⟨_,rfl⟩;have HCD:=zz (HDP.out d hd);rw [hd] at HPX;rw [hc] at y4;have q0:((0:Int) != 0)=false:=rfl;clear hc hcc hok hsz1 hd HDP HLR HE hg HPP HPZ;go_wp2_with fail;refine HCD.out.mono ?_;rintro e w9 ⟨rfl,hk⟩;have HR9:Hid (w9.heap[R]?=some (.cells #[.int .i64 0,.int .i64 0] 34 (0,0))):=zz ((hk.block _ (Array.getElem?_eq_some_iff.1 HRX.out).1 (fun e=>e)).trans HRX.out);have HK9:Hid (Keeps No w w9):=zz (HKX.out.trans hk (fun _ _ e=>e));have HO9:Hid (RwD w9 (fun q=>K.B≤q) 69 1 (.slice sa av.length sc) av.length (ptrs av)):=zz ((RwD.of HOR.out).keep hk (fun q e=>e.elim));have HI9:Hid (∀ (k:Nat) (a:Option Addr) (i:Sy.It),av[k]?=some a→is[k]?=some i→ItD w9 (fun q=>K.B≤q) a i):=zz (fun k a i ha hi=>((HLI.out.sub k a i ha hi).mono (fun q _ hd=>hd.1)).keep hk (fun q e=>e.elim));have HRB:Hid (R < K.B):=zz (by have:=HBW.out; omega);have x0:w9.cell? ⟨R,0,none⟩=some (.int .i64 0):=by rw [cell_of_row w9 R 0 _ _ _ HR9.out]; rfl
        have x1:w9.cell? ⟨R,1,none⟩=some (.int .i64 0):=by rw [cell_of_row w9 R 1 _ _ _ HR9.out]; rfl
        have z0:w9.frozen? ⟨R,0,none⟩=false:=frozen_of_row w9 R 0 _ _ HR9.out;have z1:w9.frozen? ⟨R,1,none⟩=false:=frozen_of_row w9 R 1 _ _ HR9.out;have HKE:Hid (∀ (a b:Value),Keeps No w ((w9.setCell ⟨R,0,none⟩ a).setCell ⟨R,1,none⟩ b)):=zz (fun a b=>(HK9.out.setCell (p:=⟨R,0,none⟩) (.inr HRW.out) a).setCell (p:=⟨R,1,none⟩) (.inr HRW.out) b);have HKF:Hid (∀ (a b:Value),Keeps (fun q=>q=R) w9 ((w9.setCell ⟨R,0,none⟩ a).setCell ⟨R,1,none⟩ b)):=zz (fun a b=>((Keeps.refl (fun q=>q=R) w9).setCell (p:=⟨R,0,none⟩) (.inl rfl) a).setCell (p:=⟨R,1,none⟩) (.inl rfl) b);clear hk HOR HLX HKX HRX y0 y1 y4;by_cases h40:d > 40
        · have HPE:Hid (Sy.parseM s=⟨[],5,0⟩):=zz (by rw [HPX.out,if_pos h40]);have h41:40 < d:=h40;go_wp2_with fail;refine bodyPost_ret (v:=.tuple #[.slice none 0 0,.agg #[.int .i64 5,.int .i64 0]]) ?_ rfl (by rw [HPE.out]; exact parse_none (HKE.out _ _));simp [results,Tryz.results16,go_sem,x0,x1,Act.put]
        · have HPE:Hid (Sy.parseM s=⟨is,0,0⟩):=zz (by rw [HPX.out,if_neg h40]);have h41:¬ 40 < d:=h40;go_wp2_with fail;refine bodyPost_ret (v:=.tuple #[.slice sa av.length sc,.agg #[.int .i64 0,.int .i64 0]]) ?_ rfl ?_
          · simp [results,Tryz.results16,go_sem,x0,x1,Act.put]
          · rw [HPE.out];exact ⟨sa,sc,av,rfl,HKE.out _ _,(HO9.out.keep (HKF.out _ _) (fun q e=>.inl (fun h=>by have:=HRB.out; have h1:K.B≤q:=h; omega))).mono (fun q hq _=>hq),HLI.out.len,fun k a i ha hi=>((HI9.out k a i ha hi).keep (HKF.out _ _) (fun q e=>.inl (fun h=>by have:=HRB.out; have h1:K.B≤q:=h; omega))).mono (fun q hq _=>hq)⟩
      · have q1:(χ.code != 0)=true:=bne_iff_ne.2 hc;have HPE:Hid (Sy.parseM s=⟨[],χ.code,χ.wat⟩):=zz (by rw [HPZ.out,if_pos hc]);have y5:wr.cell? ⟨K.P,5,none⟩=some (.int .i64 χ.wat):=HAR.out.p.c (j:=5) rfl;have x0:wr.cell? ⟨R,0,none⟩=some (.int .i64 0):=by rw [cell_of_row wr R 0 _ _ _ HRX.out]; rfl
        have x1:wr.cell? ⟨R,1,none⟩=some (.int .i64 0):=by rw [cell_of_row wr R 1 _ _ _ HRX.out]; rfl
        have z0:wr.frozen? ⟨R,0,none⟩=false:=frozen_of_row wr R 0 _ _ HRX.out;have z1:wr.frozen? ⟨R,1,none⟩=false:=frozen_of_row wr R 1 _ _ HRX.out;have HKE1:Hid (∀ (a b:Value),Keeps No w (((wr.setCell ⟨R,0,none⟩ a).setCell ⟨R,1,none⟩ b).drew)):=zz (fun a b=>((HKX.out.setCell (p:=⟨R,0,none⟩) (.inr HRW.out) a).setCell (p:=⟨R,1,none⟩) (.inr HRW.out) b).drew);clear hc HE hg HLR HOR HPZ HPP;go_upto_region 9 with fail
        go_region
        all_goals
         go_wp2_with fail;refine bodyPost_ret (v:=.tuple #[.slice none 0 0,.agg #[.int .i64 χ.code,.int .i64 χ.wat]]) ?_ rfl (by rw [HPE.out]; exact parse_none (HKE1.out _ _));simp [results,Tryz.results16,go_sem,x0,x1,Act.put]
 · have q1:(tc != 0)=true:=bne_iff_ne.2 hc;have HPE:Hid (Sy.parseM s=⟨[],tc,tp⟩):=zz (by rw [HPM.out,if_pos hc]);have y0:w3.cell? ⟨R,0,none⟩=some (.int .i64 0):=by rw [cell_of_row w3 R 0 _ _ _ HR3.out]; rfl
   have y1:w3.cell? ⟨R,1,none⟩=some (.int .i64 0):=by rw [cell_of_row w3 R 1 _ _ _ HR3.out]; rfl
   have z0:w3.frozen? ⟨R,0,none⟩=false:=frozen_of_row w3 R 0 _ _ HR3.out;have z1:w3.frozen? ⟨R,1,none⟩=false:=frozen_of_row w3 R 1 _ _ HR3.out;have HKE:Hid (∀ (a b:Value) (n:Nat),Keeps No w (((w3.setCell ⟨R,0,none⟩ a).setCell ⟨R,1,none⟩ b).drewN n)):=zz (fun a b n=>((HK3.out.setCell (p:=⟨R,0,none⟩) (.inr HRW.out) a).setCell (p:=⟨R,1,none⟩) (.inr HRW.out) b).drewN n);have HKE1:Hid (∀ (a b:Value),Keeps No w (((w3.setCell ⟨R,0,none⟩ a).setCell ⟨R,1,none⟩ b).drew)):=zz (fun a b=>((HK3.out.setCell (p:=⟨R,0,none⟩) (.inr HRW.out) a).setCell (p:=⟨R,1,none⟩) (.inr HRW.out) b).drew);clear hc;go_upto_region 3 with fail
   go_region
   all_goals
    go_wp2_with fail;refine bodyPost_ret (v:=.tuple #[.slice none 0 0,.agg #[.int .i64 tc,.int .i64 tp]]) ?_ rfl (by rw [HPE.out]; exact parse_none (HKE1.out _ _));simp [results,Tryz.results16,go_sem,y0,y1,Act.put]
end Go.Proofs.YtjgkacggjhobmaaGreatDoor
namespace Go.Proofs.YtjgkacggjhobmaaGreatDoor.Lx
open Go.RowKit
def hd:List UInt8→Int
 | []=>0
 | b::_=>(b.toNat:Int)
def At_ (s:ByteArray) (i:Nat) (l:List UInt8):Prop:=s.data.toList.drop i=l
theorem at_hd {s:ByteArray} {i:Nat} {l:List UInt8} (h:At_ s i l):pk s i=hd l:=by
 unfold At_ at h;by_cases hi:i < s.size
 · have hl:i < s.data.toList.length:=by simpa using hi
   rw [List.drop_eq_getElem_cons hl] at h;rw [← h,pk_lt hi];show _=((s.data.toList[i]).toNat:Int)
   congr 2
 · rw [pk_ge hi];rw [List.drop_eq_nil_of_le (by simp; omega)] at h;rw [← h]; rfl
theorem at_tl {s:ByteArray} {i:Nat} {l:List UInt8} (h:At_ s i l):At_ s (i+1) l.tail:=by
 unfold At_ at h ⊢;rw [← h,List.tail_drop]
theorem at_cons {s:ByteArray} {i:Nat} {b:UInt8} {t:List UInt8} (h:At_ s i (b::t)):i < s.size:=by
 unfold At_ at h;rcases Nat.lt_or_ge i s.size with h1 | h1
 · exact h1
 · rw [List.drop_eq_nil_of_le (by simp; omega)] at h; cases h
theorem at_nil {s:ByteArray} {i:Nat} (h:At_ s i []):s.size≤i:=by
 unfold At_ at h;have:=List.drop_eq_nil_iff.1 h;simpa using this
theorem at_len {s:ByteArray} {i:Nat} {l:List UInt8} (h:At_ s i l):l.length=s.size - i:=by
 unfold At_ at h;rw [← h,List.length_drop]; simp
def sc (p:List UInt8→Bool):List UInt8→Nat→List UInt8 × Nat
 | [],i=>([],i)
 | b::t,i=>if p (b::t)=true then sc p t (i+1) else (b::t,i)
theorem sc_eq {s:ByteArray} {P:Nat→Bool} {p:List UInt8→Bool} (h:∀ (k:Nat) (b:UInt8) (t:List UInt8),At_ s k (b::t)→P k=p (b::t)) (hn:∀ k,s.size≤k→P k=false) :
    ∀ (l:List UInt8) (f i:Nat),At_ s i l→l.length≤f→scan P f i=(sc p l i).2∧At_ s (sc p l i).2 (sc p l i).1
 | [],f,i,ha,hf=>by
   have:=at_nil ha;exact ⟨scan_no (hn i this),ha⟩
 | b::t,0,i,ha,hf=>absurd hf (by simp)
 | b::t,f+1,i,ha,hf=>by
   unfold sc;by_cases hp:p (b::t)=true
   · rw [if_pos hp,scan_yes (by rw [h i b t ha]; exact hp)];exact sc_eq h hn t f (i+1) (at_tl ha) (by simpa using hf)
   · rw [if_neg hp];exact ⟨scan_no (by rw [h i b t ha]; simpa using hp),ha⟩
def lineL (l:List UInt8):Bool:=!(hd l==10)&&!(hd l==13)
def blockL (l:List UInt8):Bool:=!l.tail.isEmpty&&!(hd l==42&&hd l.tail==47)
def nameL (l:List UInt8):Bool:=inB (hd l)
theorem line_eq {s:ByteArray} {i:Nat} {l:List UInt8} (ha:At_ s i l):lineEnd s i=(sc lineL l i).2∧At_ s (sc lineL l i).2 (sc lineL l i).1 :=
 sc_eq (fun k b t hk=>by
  unfold lineP lineL;rw [decide_eq_true (at_cons hk),at_hd hk]; simp) (fun k hk=>lineP_ge s k hk) l s.size i ha (by rw [at_len ha]; omega)
theorem block_eq {s:ByteArray} {i:Nat} {l:List UInt8} (ha:At_ s i l):blockEnd s i=(sc blockL l i).2∧At_ s (sc blockL l i).2 (sc blockL l i).1 :=
 sc_eq (fun k b t hk=>by
  unfold blockP blockL;have ht:=at_tl hk;rw [at_hd hk,at_hd ht];have e:decide (k+1 < s.size)=!(b::t).tail.isEmpty:=by
   have hl:=at_len ht;show _=!t.isEmpty;cases t with
   | nil=>simp at hl; simp; omega
   | cons c u=>simp at hl; simp; omega
  rw [e]) (fun k hk=>blockP_ge s k (by omega)) l s.size i ha (by rw [at_len ha]; omega)
theorem name_eq {s:ByteArray} {i:Nat} {l:List UInt8} (ha:At_ s i l):nameEnd s i=(sc nameL l i).2∧At_ s (sc nameL l i).2 (sc nameL l i).1 :=
 sc_eq (fun k b t hk=>by unfold nameP nameL; rw [at_hd hk]) (fun k hk=>nameP_ge s k hk) l s.size i ha (by rw [at_len ha]; omega)
def gapL:Nat→List UInt8→Nat→List UInt8 × Nat × Bool
 | 0,l,i=>(l,i,true)
 | f+1,[],i=>([],i,true)
 | f+1,b::t,i =>
   if blankB (b.toNat:Int)=true then gapL f t (i+1)
   else if (b.toNat:Int)=47∧hd t=47 then gapL f (sc lineL (b::t) i).1 (sc lineL (b::t) i).2
   else if (b.toNat:Int)=47∧hd t=42 then
    (match (sc blockL t.tail (i+2)).1 with
    | _::_::u=>gapL f u ((sc blockL t.tail (i+2)).2+2)
    | _=>(b::t,i,false))
   else (b::t,i,true)
theorem gap_eq {s:ByteArray}:∀ (f:Nat) (l:List UInt8) (i:Nat),At_ s i l→gap s f i=((gapL f l i).2.1,(gapL f l i).2.2)∧At_ s (gapL f l i).2.1 (gapL f l i).1
 | 0,l,i,ha=>⟨rfl,ha⟩
 | f+1,[],i,ha=>⟨gap_end (by have:=at_nil ha; omega),ha⟩
 | f+1,b::t,i,ha=>by
   have hi:=at_cons ha;have h0:pk s i=(b.toNat:Int):=at_hd ha;have h1:=at_hd (at_tl ha);unfold gap gapL;rw [if_pos hi,h0,h1];show (if blankB (b.toNat:Int)=true then _ else if (b.toNat:Int)=47∧hd t=47 then _ else if (b.toNat:Int)=47∧hd t=42 then _ else _)=_∧_;by_cases hb:blankB (b.toNat:Int)=true
   · simp only [if_pos hb]; exact gap_eq f t (i+1) (at_tl ha)
   simp only [if_neg hb];by_cases hl:(b.toNat:Int)=47∧hd t=47
   · simp only [if_pos hl];obtain ⟨e1,e2⟩:=line_eq ha;rw [e1];exact gap_eq f _ _ e2
   simp only [if_neg hl];by_cases hk:(b.toNat:Int)=47∧hd t=42
   · simp only [if_pos hk];obtain ⟨e1,e2⟩:=block_eq (at_tl (at_tl ha));have e1':blockEnd s (i+2)=(sc blockL t.tail (i+2)).2:=e1;rw [e1'];have hlen:=at_len e2;change At_ s (sc blockL t.tail (i+2)).2 (sc blockL t.tail (i+2)).1 at e2;change (sc blockL t.tail (i+2)).1.length=s.size - (sc blockL t.tail (i+2)).2 at hlen;generalize sc blockL t.tail (i+2)=r at e2 hlen ⊢;obtain ⟨u,j⟩:=r
     match u,e2,hlen with
     | [],e2,hlen=>rw [if_neg (by simp at hlen; omega)]; exact ⟨rfl,ha⟩
     | [x],e2,hlen=>rw [if_neg (by simp at hlen; omega)]; exact ⟨rfl,ha⟩
     | x::y::u,e2,hlen =>
       rw [if_pos (by simp at hlen; omega)];exact gap_eq f u (j+2) (at_tl (at_tl e2))
   · simp only [if_neg hk]; exact ⟨trivial,ha⟩
def digsL (b:Int):List UInt8→Nat→Int→Bool→List UInt8 × Nat × Int × Bool
 | [],k,n,ok=>([],k,n,ok)
 | c::t,k,n,ok=>if 0≤valB b (c.toNat:Int) then digsL b t (k+1) ((n * b+valB b (c.toNat:Int)) % 18446744073709551616) (ok&&decide (n≤(18446744073709551615 - valB b (c.toNat:Int)) / b)) else (c::t,k,n,ok)
theorem digs_eq {s:ByteArray} {b:Int}:∀ (l:List UInt8) (f k:Nat) (n:Int) (ok:Bool),At_ s k l→l.length≤f→digs s b f k n ok=(digsL b l k n ok).2∧At_ s (digsL b l k n ok).2.1 (digsL b l k n ok).1
 | [],f,k,n,ok,ha,hf=>by
   have hv:¬ 0≤valB b (pk s k):=fun h=>by have:=valB_in h; have:=at_nil ha; omega
   exact ⟨digs_no hv,ha⟩
 | c::t,0,k,n,ok,ha,hf=>absurd hf (by simp)
 | c::t,f+1,k,n,ok,ha,hf=>by
   have h0:pk s k=(c.toNat:Int):=at_hd ha;unfold digsL;by_cases hv:0≤valB b (c.toNat:Int)
   · simp only [if_pos hv];rw [digs_yes (by rw [h0]; exact hv),h0];exact digs_eq t f (k+1) _ _ (at_tl ha) (by simpa using hf)
   · simp only [if_neg hv];exact ⟨digs_no (by rw [h0]; exact hv),ha⟩
def digML (b:Int) (l:List UInt8) (k:Nat):List UInt8 × Nat × Int × Bool:=if b=10∧hd l=48 then (l.tail,k+1,0,true) else digsL b l k 0 true
theorem digM_eq {s:ByteArray} {b:Int} {l:List UInt8} {k:Nat} (ha:At_ s k l):digM s b k=(digML b l k).2∧At_ s (digML b l k).2.1 (digML b l k).1:=by
 unfold digM digML;rw [at_hd ha];split
 · exact ⟨rfl,at_tl ha⟩
 · exact digs_eq l s.size k 0 true ha (by rw [at_len ha]; omega)
def sufLenL (l:List UInt8):Nat:=if hd l=117 then (if hd l.tail=108 then 2 else 1) else if hd l=108 then 1 else 0
def sufStrL (l:List UInt8):ByteArray:=if hd l=117 then (if hd l.tail=108 then ⟨#[117,108]⟩ else ⟨#[117]⟩) else if hd l=108 then ⟨#[108]⟩ else ⟨#[]⟩
theorem at_drop {s:ByteArray} {i:Nat} {l:List UInt8} (h:At_ s i l) (n:Nat):At_ s (i+n) (l.drop n):=by
 unfold At_ at h ⊢;rw [← h,List.drop_drop]
def nEndL (r:List UInt8 × Nat × Int × Bool):Nat:=r.2.1+sufLenL r.1
def nCodeL (r:List UInt8 × Nat × Int × Bool):Int:=if inB (hd (r.1.drop (sufLenL r.1)))=true then 3 else if r.2.2.2=true then 0 else 6
def tailL (r:List UInt8 × Nat × Int × Bool) (hex:Bool):NumR:=if nCodeL r=0 then ⟨0,nEndL r,3,sufStrL r.1,r.2.2.1,hex⟩ else bad (nCodeL r) (nEndL r)
theorem tail_eq {s:ByteArray} {b:Int} {l:List UInt8} {k:Nat} (ha:At_ s k l) (hex:Bool):tailM s b k hex=tailL (digML b l k) hex:=by
 obtain ⟨h1,h2⟩:=digM_eq (b:=b) ha;obtain ⟨⟨u,j,n,ok⟩,hr⟩:∃ r,digML b l k=r:=⟨_,rfl⟩;rw [hr] at h1 h2 ⊢;have e0:sufLen s j=sufLenL u:=by unfold sufLen sufLenL; rw [at_hd h2,at_hd (at_tl h2)]
 have e1:sufStr s j=sufStrL u:=by unfold sufStr sufStrL; rw [at_hd h2,at_hd (at_tl h2)]
 have e2:nEnd s b k=nEndL (u,j,n,ok):=by unfold nEnd nEndL; rw [h1]; simp only; rw [e0]
 have e3:nCode s b k=nCodeL (u,j,n,ok):=by
  unfold nCode nCodeL;rw [e2];unfold nEndL;rw [at_hd (at_drop h2 _),h1]
 unfold tailM tailL;rw [e2,e3,h1];simp only;rw [e1]
def numL (l:List UInt8) (i:Nat):NumR :=
 if hd l=48∧hd l.tail=120 then (if valB 16 (hd l.tail.tail) < 0 then bad 3 (i+2) else tailL (digML 16 l.tail.tail (i+2)) true) else tailL (digML 10 l i) false
theorem num_eq {s:ByteArray} {l:List UInt8} {i:Nat} (ha:At_ s i l):numberM s i=numL l i:=by
 unfold numberM numL;rw [at_hd ha,at_hd (at_tl ha),at_hd (at_tl (at_tl ha)),tail_eq ha,tail_eq (at_tl (at_tl ha))]
def chL (l:List UInt8):Int × Nat × Int :=
 if hd l.tail=92 then
  if hd l.tail.tail=110∨hd l.tail.tail=48∨hd l.tail.tail=92∨hd l.tail.tail=39 then
   if hd l.tail.tail.tail=39 then (0,4,if hd l.tail.tail=110 then 10 else if hd l.tail.tail=48 then 0 else hd l.tail.tail) else (3,0,0)
  else (3,0,0)
 else if hd l.tail < 32∨126 < hd l.tail∨hd l.tail=39 then (3,0,0)
 else if hd l.tail.tail=39 then (0,3,hd l.tail) else (3,0,0)
theorem ch_eq {s:ByteArray} {l:List UInt8} {i:Nat} (ha:At_ s i l):chM s i=chL l:=by
 unfold chM chL;rw [at_hd (at_tl ha),at_hd (at_tl (at_tl ha)),at_hd (at_tl (at_tl (at_tl ha)))]
def wordL (l:List UInt8):Bool :=
 (l==[118,111,105,100]) || (l==[99,104,97,114]) || (l==[115,104,111,114,116]) || (l==[105,110,116]) || (l==[108,111,110,103]) || (l==[117,110,115,105,103,110,101,100]) || (l==[115,116,114,117,99,116]) || (l==[116,121,112,101,100,101,102])
  || (l==[105,102]) || (l==[101,108,115,101]) || (l==[119,104,105,108,101]) || (l==[100,111]) || (l==[102,111,114]) || (l==[115,119,105,116,99,104]) || (l==[99,97,115,101]) || (l==[100,101,102,97,117,108,116])
  || (l==[98,114,101,97,107]) || (l==[99,111,110,116,105,110,117,101]) || (l==[114,101,116,117,114,110]) || (l==[103,111,116,111]) || (l==[115,105,122,101,111,102])
theorem word_eq (t:ByteArray):wordB t=wordL t.data.toList:=by unfold wordB wordL; rw [ByteArray.toList_eq]
def cut (l:List UInt8) (n:Nat):ByteArray:=⟨⟨l.take n⟩⟩
theorem cut_eq {s:ByteArray} {i:Nat} {l:List UInt8} (ha:At_ s i l) (j:Nat):s.extract i j=cut l (j - i):=by
 unfold At_ at ha;apply ByteArray.ext;apply Array.toList_inj.1;rw [ByteArray.data_extract,Array.toList_extract];show List.extract s.data.toList i j=l.take (j - i);rw [← ha,List.extract_eq_take_drop]
def tokenL (l:List UInt8) (i:Nat):NumR :=
 if letB (hd l)=true then
  (let e:=(sc nameL l i).2
   if 30 < e - i then ⟨6,e,0,⟨#[]⟩,0,false⟩ else if wordL (l.take (e - i))=true then ⟨0,e,2,⟨#[]⟩,0,false⟩ else ⟨0,e,1,⟨#[]⟩,0,false⟩)
 else if digB (hd l)=true then numL l i
 else if hd l=39 then (let c:=chL l; ⟨c.1,i+c.2.1,if c.1=0 then 4 else 0,⟨#[]⟩,c.2.2,false⟩)
 else (let n:=signM (hd l) (hd l.tail) (hd l.tail.tail); if n=0 then bad 3 i else ⟨0,i+n,5,⟨#[]⟩,0,false⟩)
theorem token_eq {s:ByteArray} {l:List UInt8} {i:Nat} (ha:At_ s i l):tokenM s i=tokenL l i:=by
 unfold tokenM tokenL;rw [at_hd ha,at_hd (at_tl ha),at_hd (at_tl (at_tl ha)),num_eq ha];split
 · obtain ⟨e1,_⟩:=name_eq ha;rw [e1];unfold nameM;rw [word_eq,cut_eq ha,show (cut l ((sc nameL l i).2 - i)).data.toList=l.take ((sc nameL l i).2 - i) from rfl];show NumR.mk _ _ _ _ _ _=(if 30 < (sc nameL l i).2 - i then _ else if wordL (l.take ((sc nameL l i).2 - i))=true then _ else _);split
   · rfl
   split <;> rfl
 split
 · rfl
 split
 · rw [show chK s i=if (chL l).1=0 then 4 else 0 by unfold chK; rw [ch_eq ha],ch_eq ha]
 · rfl
def toksL:Nat→List UInt8→Nat→Nat→List Tk→TkR
 | 0,_,_,_,acc=>⟨acc,0,0⟩
 | f+1,l,i,m,acc =>
   match gapL (l.length+i) l i with
   | (u,g,false)=>⟨[],3,(g:Int)⟩
   | ([],g,true)=>⟨acc,0,0⟩
   | (b::u,g,true) =>
     match tokenL (b::u) g with
     | ⟨code,j,kind,suf,num,hex⟩=>if code≠0 then ⟨[],code,(g:Int)⟩ else if m=6000 then ⟨[],6,(g:Int)⟩ else toksL f ((b::u).drop (j - g)) j (m+1) (acc++[⟨kind,g,cut (b::u) (j - g),suf,num,hex⟩])
theorem toks_eq {s:ByteArray}:∀ (f:Nat) (l:List UInt8) (i m:Nat) (acc:List Tk),At_ s i l→i≤s.size→acc.length=m→toksM s f i acc=toksL f l i m acc
 | 0,l,i,m,acc,ha,hi,hm=>rfl
 | f+1,l,i,m,acc,ha,hi,hm=>by
   have hlen:=at_len ha;have hsz:l.length+i=s.size:=by omega
   obtain ⟨e1,e2⟩:=gap_eq s.size l i ha;have hb:=gap_bd (s:=s) s.size i hi;unfold toksM toksL;rw [hsz,e1];rw [e1] at hb;generalize gapL s.size l i=r at e2 hb ⊢;obtain ⟨u,g,ok⟩:=r;cases ok with
   | false=>rfl
   | true =>
     simp only at e2 hb ⊢;rw [if_neg (by decide)];cases u with
     | nil =>
       have:=at_nil e2;rw [if_pos (by omega)]
     | cons b u =>
       have hg:=at_cons e2;rw [if_neg (by omega),token_eq e2];have hbd:=tokenM_bd hg;rw [token_eq e2] at hbd;obtain ⟨⟨code,j,kind,suf,num,hex⟩,hq⟩:∃ q,tokenL (b::u) g=q:=⟨_,rfl⟩;rw [hq] at hbd;simp only [hq];simp only at hbd;rw [hm];split
       · rfl
       next hc =>
       split
       · rfl
       have hj:=hbd.1 (by simpa using hc);have ht:tkOf s g ⟨code,j,kind,suf,num,hex⟩=⟨kind,g,cut (b::u) (j - g),suf,num,hex⟩:=by
        unfold tkOf;simp only;rw [cut_eq e2]
       rw [ht];refine toks_eq f _ _ _ _ ?_ hbd.2.1 (by rw [List.length_append,List.length_singleton,hm]);have h3:=at_drop e2 (j - g);rw [show g+(j - g)=j by omega] at h3;exact h3
def tokensL (s:ByteArray):TkR:=if 20000 < s.size then ⟨[],6,0⟩ else toksL (s.size+1) s.data.toList 0 0 []
theorem tokens_eq (s:ByteArray):tokensM s=tokensL s:=by
 unfold tokensM tokensL;split
 · rfl
 · exact toks_eq (s.size+1) s.data.toList 0 0 [] (by unfold At_; rw [List.drop_zero]) (Nat.zero_le _) rfl
end Go.Proofs.YtjgkacggjhobmaaGreatDoor.Lx
