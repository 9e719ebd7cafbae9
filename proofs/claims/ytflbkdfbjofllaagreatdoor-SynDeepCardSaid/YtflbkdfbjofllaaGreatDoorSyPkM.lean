import Derived.Test.YtflbkdfbjofllaaGreatDoorSyPkL
set_option maxRecDepth 100000
set_option maxHeartbeats 25600000
set_option linter.unusedSimpArgs false
set_option linter.unusedVariables false
namespace Go.Proofs.YtflbkdfbjofllaaGreatDoor
open Go.RowKit Lx
theorem ex_k5 (W B:Nat) (x:Sy.Wr) (w0 w:World) (g:Nat) (op name base:ByteArray) (stars num:Int) (arr:Bool) (sa:Option Addr) (n sc:Nat) (subs:List Sy.Ex) (hW:WE w W B x) (hA:Agr B w0 w) (hg:g < B)
    (hr:w0.heap[g]?=some (.cells (exRow 5 op name ⟨base,stars⟩ num arr (.slice sa n sc)) 154 (0,0)))
    (hE:∀ (w2:World) (y:Sy.Wr),Agr B w0 w2→WE w2 W B y→(Sy.exsW subs y).out.size≤BIG→Calls Tryz.prog 100 #[.pointer (some ⟨W,0,none⟩),.slice sa n sc] w2 (WrPost w2 W B (Sy.exsW subs y)))
    (ho:Sy.okN stars num=true) (hb:(Sy.exW (.mk 5 op name ⟨base,stars⟩ num arr subs) x).out.size≤BIG) :
    Calls Tryz.prog 99 #[.pointer (some ⟨W,0,none⟩),.pointer (some ⟨g,0,none⟩)] w (WrPost w W B (Sy.exW (.mk 5 op name ⟨base,stars⟩ num arr subs) x)):=by
 have hM:Sy.exW (.mk 5 op name ⟨base,stars⟩ num arr subs) x=Sy.closeW (Sy.exsW subs (Sy.openP [⟨#[97,110,100]⟩] x)):=by
  unfold Sy.exW
  simp only [Sy.exHead]
  rfl
 rw [hM] at hb
 have HM:=zz hM
 have HB4:=zz hb
 have hb2:=Nat.le_trans (Sy.close_mono (Sy.exsW subs (Sy.openP [⟨#[97,110,100]⟩] x))) hb
 have HB2:=zz hb2
 have hb1:=Nat.le_trans (Sy.exs_mono subs (Sy.openP [⟨#[97,110,100]⟩] x)) hb2
 have HB1:=zz hb1
 have HWE:=zz hW
 have HAG:=zz hA
 have HGB:=zz hg
 have HRW:=zz hr
 have HEX:=zz hE
 unfold Sy.okN at ho
 rw [decide_eq_true_eq] at ho
 have hrw:=hA.row hr hg
 have c0:w.cell? ⟨g,0,none⟩=some (.int .i64 5):=by rw [cell_of_row w g 0 _ _ _ hrw]; rfl
 have c1:w.cell? ⟨g,1,none⟩=some (.string op):=by rw [cell_of_row w g 1 _ _ _ hrw]; rfl
 have c2:w.cell? ⟨g,2,none⟩=some (.string name):=by rw [cell_of_row w g 2 _ _ _ hrw]; rfl
 clear hM hb hb2 hb1 hW hA hg hr hE ho hrw
 go_enter Tryz.func99,Tryz.ntmps99
 have HKv2:Hid (Keeps No w w):=zz (Keeps.refl _ _)
 have hk3:Keeps No w (w.alloc (.cells #[.string ⟨#[97,110,100]⟩] 9)):=(Keeps.refl _ _).alloc _
 have hp3:(w.alloc (.cells #[.string ⟨#[97,110,100]⟩] 9)).heap[w.heap.size]?=some (.cells #[.string ⟨#[97,110,100]⟩] 9 (0,0)):=heap_alloc_new _ _
 have hne3:w.heap.size ≠ W:=by have:=HWE.out.bw.lt; have:=HKv2.out.size; omega
 have HKv3:Hid (Keeps No w (w.alloc (.cells #[.string ⟨#[97,110,100]⟩] 9))):=zz (HKv2.out.trans hk3 (fun _ _ e=>e))
 have HPT:Hid (Pts (w.alloc (.cells #[.string ⟨#[97,110,100]⟩] 9)) W (.slice (some ⟨w.heap.size,0,none⟩) 1 1) [⟨#[97,110,100]⟩]):=zz ⟨by simp,.inr ⟨w.heap.size,rfl,hp3,hne3⟩⟩
 clear hk3 hp3 hne3
 go_wp2_with fail
 refine (open_any W B x [⟨#[97,110,100]⟩] _ _ (HWE.out.no HKv3.out) HPT.out HB1.out).mono ?_
 rintro e' w3 ⟨rfl,hx⟩
 have HX3:Hid (WX w w3 W B (Sy.openP [⟨#[97,110,100]⟩] x)):=zz (WX.after HKv3.out hx)
 clear hx c0 c1 c2
 have HA3:=zz (HAG.out.wx HX3.out)
 have hr3:=HA3.out.row HRW.out HGB.out
 have c7:w3.cell? ⟨g,7,none⟩=some (.slice sa n sc):=by rw [cell_of_row w3 g 7 _ _ _ hr3]; rfl
 clear hr3
 go_wp2_with fail
 refine (HEX.out w3 _ HA3.out HX3.out.p HB2.out).mono ?_
 rintro e' w4 ⟨rfl,hx⟩
 have HX4:=zz (HX3.out.trans hx)
 have hr4:=(HA3.out.wx hx).row HRW.out HGB.out
 clear hx c7
 have c0:w4.cell? ⟨g,0,none⟩=some (.int .i64 5):=by rw [cell_of_row w4 g 0 _ _ _ hr4]; rfl
 have c2:w4.cell? ⟨g,2,none⟩=some (.string name):=by rw [cell_of_row w4 g 2 _ _ _ hr4]; rfl
 clear hr4
 go_wp2_with fail
 refine (close_any W B _ w4 HX4.out.p HB4.out).mono ?_
 rintro e' w6 ⟨rfl,hx⟩
 have HX6:=zz (HX4.out.trans hx)
 clear hx
 go_wp2_with fail
 go_returns
 exact ⟨rfl,by rw [HM.out]; exact HX6.out⟩
theorem ex_k6 (W B:Nat) (x:Sy.Wr) (w0 w:World) (g:Nat) (op name base:ByteArray) (stars num:Int) (arr:Bool) (sa:Option Addr) (n sc:Nat) (subs:List Sy.Ex) (hW:WE w W B x) (hA:Agr B w0 w) (hg:g < B)
    (hr:w0.heap[g]?=some (.cells (exRow 6 op name ⟨base,stars⟩ num arr (.slice sa n sc)) 154 (0,0)))
    (hE:∀ (w2:World) (y:Sy.Wr),Agr B w0 w2→WE w2 W B y→(Sy.exsW subs y).out.size≤BIG→Calls Tryz.prog 100 #[.pointer (some ⟨W,0,none⟩),.slice sa n sc] w2 (WrPost w2 W B (Sy.exsW subs y)))
    (ho:Sy.okN stars num=true) (hb:(Sy.exW (.mk 6 op name ⟨base,stars⟩ num arr subs) x).out.size≤BIG) :
    Calls Tryz.prog 99 #[.pointer (some ⟨W,0,none⟩),.pointer (some ⟨g,0,none⟩)] w (WrPost w W B (Sy.exW (.mk 6 op name ⟨base,stars⟩ num arr subs) x)):=by
 have hM:Sy.exW (.mk 6 op name ⟨base,stars⟩ num arr subs) x=Sy.closeW (Sy.exsW subs (Sy.openP [⟨#[111,114]⟩] x)):=by
  unfold Sy.exW
  simp only [Sy.exHead]
  rfl
 rw [hM] at hb
 have HM:=zz hM
 have HB4:=zz hb
 have hb2:=Nat.le_trans (Sy.close_mono (Sy.exsW subs (Sy.openP [⟨#[111,114]⟩] x))) hb
 have HB2:=zz hb2
 have hb1:=Nat.le_trans (Sy.exs_mono subs (Sy.openP [⟨#[111,114]⟩] x)) hb2
 have HB1:=zz hb1
 have HWE:=zz hW
 have HAG:=zz hA
 have HGB:=zz hg
 have HRW:=zz hr
 have HEX:=zz hE
 unfold Sy.okN at ho
 rw [decide_eq_true_eq] at ho
 have hrw:=hA.row hr hg
 have c0:w.cell? ⟨g,0,none⟩=some (.int .i64 6):=by rw [cell_of_row w g 0 _ _ _ hrw]; rfl
 have c1:w.cell? ⟨g,1,none⟩=some (.string op):=by rw [cell_of_row w g 1 _ _ _ hrw]; rfl
 have c2:w.cell? ⟨g,2,none⟩=some (.string name):=by rw [cell_of_row w g 2 _ _ _ hrw]; rfl
 clear hM hb hb2 hb1 hW hA hg hr hE ho hrw
 go_enter Tryz.func99,Tryz.ntmps99
 have HKv2:Hid (Keeps No w w):=zz (Keeps.refl _ _)
 have hk3:Keeps No w (w.alloc (.cells #[.string ⟨#[111,114]⟩] 9)):=(Keeps.refl _ _).alloc _
 have hp3:(w.alloc (.cells #[.string ⟨#[111,114]⟩] 9)).heap[w.heap.size]?=some (.cells #[.string ⟨#[111,114]⟩] 9 (0,0)):=heap_alloc_new _ _
 have hne3:w.heap.size ≠ W:=by have:=HWE.out.bw.lt; have:=HKv2.out.size; omega
 have HKv3:Hid (Keeps No w (w.alloc (.cells #[.string ⟨#[111,114]⟩] 9))):=zz (HKv2.out.trans hk3 (fun _ _ e=>e))
 have HPT:Hid (Pts (w.alloc (.cells #[.string ⟨#[111,114]⟩] 9)) W (.slice (some ⟨w.heap.size,0,none⟩) 1 1) [⟨#[111,114]⟩]):=zz ⟨by simp,.inr ⟨w.heap.size,rfl,hp3,hne3⟩⟩
 clear hk3 hp3 hne3
 go_wp2_with fail
 refine (open_any W B x [⟨#[111,114]⟩] _ _ (HWE.out.no HKv3.out) HPT.out HB1.out).mono ?_
 rintro e' w3 ⟨rfl,hx⟩
 have HX3:Hid (WX w w3 W B (Sy.openP [⟨#[111,114]⟩] x)):=zz (WX.after HKv3.out hx)
 clear hx c0 c1 c2
 have HA3:=zz (HAG.out.wx HX3.out)
 have hr3:=HA3.out.row HRW.out HGB.out
 have c7:w3.cell? ⟨g,7,none⟩=some (.slice sa n sc):=by rw [cell_of_row w3 g 7 _ _ _ hr3]; rfl
 clear hr3
 go_wp2_with fail
 refine (HEX.out w3 _ HA3.out HX3.out.p HB2.out).mono ?_
 rintro e' w4 ⟨rfl,hx⟩
 have HX4:=zz (HX3.out.trans hx)
 have hr4:=(HA3.out.wx hx).row HRW.out HGB.out
 clear hx c7
 have c0:w4.cell? ⟨g,0,none⟩=some (.int .i64 6):=by rw [cell_of_row w4 g 0 _ _ _ hr4]; rfl
 have c2:w4.cell? ⟨g,2,none⟩=some (.string name):=by rw [cell_of_row w4 g 2 _ _ _ hr4]; rfl
 clear hr4
 go_wp2_with fail
 refine (close_any W B _ w4 HX4.out.p HB4.out).mono ?_
 rintro e' w6 ⟨rfl,hx⟩
 have HX6:=zz (HX4.out.trans hx)
 clear hx
 go_wp2_with fail
 go_returns
 exact ⟨rfl,by rw [HM.out]; exact HX6.out⟩
theorem ex_k7 (W B:Nat) (x:Sy.Wr) (w0 w:World) (g:Nat) (op name base:ByteArray) (stars num:Int) (arr:Bool) (sa:Option Addr) (n sc:Nat) (subs:List Sy.Ex) (hW:WE w W B x) (hA:Agr B w0 w) (hg:g < B)
    (hr:w0.heap[g]?=some (.cells (exRow 7 op name ⟨base,stars⟩ num arr (.slice sa n sc)) 154 (0,0)))
    (hE:∀ (w2:World) (y:Sy.Wr),Agr B w0 w2→WE w2 W B y→(Sy.exsW subs y).out.size≤BIG→Calls Tryz.prog 100 #[.pointer (some ⟨W,0,none⟩),.slice sa n sc] w2 (WrPost w2 W B (Sy.exsW subs y)))
    (ho:Sy.okN stars num=true) (hb:(Sy.exW (.mk 7 op name ⟨base,stars⟩ num arr subs) x).out.size≤BIG) :
    Calls Tryz.prog 99 #[.pointer (some ⟨W,0,none⟩),.pointer (some ⟨g,0,none⟩)] w (WrPost w W B (Sy.exW (.mk 7 op name ⟨base,stars⟩ num arr subs) x)):=by
 have hM:Sy.exW (.mk 7 op name ⟨base,stars⟩ num arr subs) x=Sy.closeW (Sy.exsW subs (Sy.openP [⟨#[99,111,110,100]⟩] x)):=by
  unfold Sy.exW
  simp only [Sy.exHead]
  rfl
 rw [hM] at hb
 have HM:=zz hM
 have HB4:=zz hb
 have hb2:=Nat.le_trans (Sy.close_mono (Sy.exsW subs (Sy.openP [⟨#[99,111,110,100]⟩] x))) hb
 have HB2:=zz hb2
 have hb1:=Nat.le_trans (Sy.exs_mono subs (Sy.openP [⟨#[99,111,110,100]⟩] x)) hb2
 have HB1:=zz hb1
 have HWE:=zz hW
 have HAG:=zz hA
 have HGB:=zz hg
 have HRW:=zz hr
 have HEX:=zz hE
 unfold Sy.okN at ho
 rw [decide_eq_true_eq] at ho
 have hrw:=hA.row hr hg
 have c0:w.cell? ⟨g,0,none⟩=some (.int .i64 7):=by rw [cell_of_row w g 0 _ _ _ hrw]; rfl
 have c1:w.cell? ⟨g,1,none⟩=some (.string op):=by rw [cell_of_row w g 1 _ _ _ hrw]; rfl
 have c2:w.cell? ⟨g,2,none⟩=some (.string name):=by rw [cell_of_row w g 2 _ _ _ hrw]; rfl
 clear hM hb hb2 hb1 hW hA hg hr hE ho hrw
 go_enter Tryz.func99,Tryz.ntmps99
 have HKv2:Hid (Keeps No w w):=zz (Keeps.refl _ _)
 have hk3:Keeps No w (w.alloc (.cells #[.string ⟨#[99,111,110,100]⟩] 9)):=(Keeps.refl _ _).alloc _
 have hp3:(w.alloc (.cells #[.string ⟨#[99,111,110,100]⟩] 9)).heap[w.heap.size]?=some (.cells #[.string ⟨#[99,111,110,100]⟩] 9 (0,0)):=heap_alloc_new _ _
 have hne3:w.heap.size ≠ W:=by have:=HWE.out.bw.lt; have:=HKv2.out.size; omega
 have HKv3:Hid (Keeps No w (w.alloc (.cells #[.string ⟨#[99,111,110,100]⟩] 9))):=zz (HKv2.out.trans hk3 (fun _ _ e=>e))
 have HPT:Hid (Pts (w.alloc (.cells #[.string ⟨#[99,111,110,100]⟩] 9)) W (.slice (some ⟨w.heap.size,0,none⟩) 1 1) [⟨#[99,111,110,100]⟩]):=zz ⟨by simp,.inr ⟨w.heap.size,rfl,hp3,hne3⟩⟩
 clear hk3 hp3 hne3
 go_wp2_with fail
 refine (open_any W B x [⟨#[99,111,110,100]⟩] _ _ (HWE.out.no HKv3.out) HPT.out HB1.out).mono ?_
 rintro e' w3 ⟨rfl,hx⟩
 have HX3:Hid (WX w w3 W B (Sy.openP [⟨#[99,111,110,100]⟩] x)):=zz (WX.after HKv3.out hx)
 clear hx c0 c1 c2
 have HA3:=zz (HAG.out.wx HX3.out)
 have hr3:=HA3.out.row HRW.out HGB.out
 have c7:w3.cell? ⟨g,7,none⟩=some (.slice sa n sc):=by rw [cell_of_row w3 g 7 _ _ _ hr3]; rfl
 clear hr3
 go_wp2_with fail
 refine (HEX.out w3 _ HA3.out HX3.out.p HB2.out).mono ?_
 rintro e' w4 ⟨rfl,hx⟩
 have HX4:=zz (HX3.out.trans hx)
 have hr4:=(HA3.out.wx hx).row HRW.out HGB.out
 clear hx c7
 have c0:w4.cell? ⟨g,0,none⟩=some (.int .i64 7):=by rw [cell_of_row w4 g 0 _ _ _ hr4]; rfl
 have c2:w4.cell? ⟨g,2,none⟩=some (.string name):=by rw [cell_of_row w4 g 2 _ _ _ hr4]; rfl
 clear hr4
 go_wp2_with fail
 refine (close_any W B _ w4 HX4.out.p HB4.out).mono ?_
 rintro e' w6 ⟨rfl,hx⟩
 have HX6:=zz (HX4.out.trans hx)
 clear hx
 go_wp2_with fail
 go_returns
 exact ⟨rfl,by rw [HM.out]; exact HX6.out⟩
theorem ex_k9 (W B:Nat) (x:Sy.Wr) (w0 w:World) (g:Nat) (op name base:ByteArray) (stars num:Int) (arr:Bool) (sa:Option Addr) (n sc:Nat) (subs:List Sy.Ex) (hW:WE w W B x) (hA:Agr B w0 w) (hg:g < B)
    (hr:w0.heap[g]?=some (.cells (exRow 9 op name ⟨base,stars⟩ num arr (.slice sa n sc)) 154 (0,0)))
    (hE:∀ (w2:World) (y:Sy.Wr),Agr B w0 w2→WE w2 W B y→(Sy.exsW subs y).out.size≤BIG→Calls Tryz.prog 100 #[.pointer (some ⟨W,0,none⟩),.slice sa n sc] w2 (WrPost w2 W B (Sy.exsW subs y)))
    (ho:Sy.okN stars num=true) (hb:(Sy.exW (.mk 9 op name ⟨base,stars⟩ num arr subs) x).out.size≤BIG) :
    Calls Tryz.prog 99 #[.pointer (some ⟨W,0,none⟩),.pointer (some ⟨g,0,none⟩)] w (WrPost w W B (Sy.exW (.mk 9 op name ⟨base,stars⟩ num arr subs) x)):=by
 have hM:Sy.exW (.mk 9 op name ⟨base,stars⟩ num arr subs) x=Sy.closeW (Sy.exsW subs (Sy.openP [⟨#[105,110,100,101,120]⟩] x)):=by
  unfold Sy.exW
  simp only [Sy.exHead]
  rfl
 rw [hM] at hb
 have HM:=zz hM
 have HB4:=zz hb
 have hb2:=Nat.le_trans (Sy.close_mono (Sy.exsW subs (Sy.openP [⟨#[105,110,100,101,120]⟩] x))) hb
 have HB2:=zz hb2
 have hb1:=Nat.le_trans (Sy.exs_mono subs (Sy.openP [⟨#[105,110,100,101,120]⟩] x)) hb2
 have HB1:=zz hb1
 have HWE:=zz hW
 have HAG:=zz hA
 have HGB:=zz hg
 have HRW:=zz hr
 have HEX:=zz hE
 unfold Sy.okN at ho
 rw [decide_eq_true_eq] at ho
 have hrw:=hA.row hr hg
 have c0:w.cell? ⟨g,0,none⟩=some (.int .i64 9):=by rw [cell_of_row w g 0 _ _ _ hrw]; rfl
 have c1:w.cell? ⟨g,1,none⟩=some (.string op):=by rw [cell_of_row w g 1 _ _ _ hrw]; rfl
 have c2:w.cell? ⟨g,2,none⟩=some (.string name):=by rw [cell_of_row w g 2 _ _ _ hrw]; rfl
 clear hM hb hb2 hb1 hW hA hg hr hE ho hrw
 go_enter Tryz.func99,Tryz.ntmps99
 have HKv2:Hid (Keeps No w w):=zz (Keeps.refl _ _)
 have hk3:Keeps No w (w.alloc (.cells #[.string ⟨#[105,110,100,101,120]⟩] 9)):=(Keeps.refl _ _).alloc _
 have hp3:(w.alloc (.cells #[.string ⟨#[105,110,100,101,120]⟩] 9)).heap[w.heap.size]?=some (.cells #[.string ⟨#[105,110,100,101,120]⟩] 9 (0,0)):=heap_alloc_new _ _
 have hne3:w.heap.size ≠ W:=by have:=HWE.out.bw.lt; have:=HKv2.out.size; omega
 have HKv3:Hid (Keeps No w (w.alloc (.cells #[.string ⟨#[105,110,100,101,120]⟩] 9))):=zz (HKv2.out.trans hk3 (fun _ _ e=>e))
 have HPT:Hid (Pts (w.alloc (.cells #[.string ⟨#[105,110,100,101,120]⟩] 9)) W (.slice (some ⟨w.heap.size,0,none⟩) 1 1) [⟨#[105,110,100,101,120]⟩]):=zz ⟨by simp,.inr ⟨w.heap.size,rfl,hp3,hne3⟩⟩
 clear hk3 hp3 hne3
 go_wp2_with fail
 refine (open_any W B x [⟨#[105,110,100,101,120]⟩] _ _ (HWE.out.no HKv3.out) HPT.out HB1.out).mono ?_
 rintro e' w3 ⟨rfl,hx⟩
 have HX3:Hid (WX w w3 W B (Sy.openP [⟨#[105,110,100,101,120]⟩] x)):=zz (WX.after HKv3.out hx)
 clear hx c0 c1 c2
 have HA3:=zz (HAG.out.wx HX3.out)
 have hr3:=HA3.out.row HRW.out HGB.out
 have c7:w3.cell? ⟨g,7,none⟩=some (.slice sa n sc):=by rw [cell_of_row w3 g 7 _ _ _ hr3]; rfl
 clear hr3
 go_wp2_with fail
 refine (HEX.out w3 _ HA3.out HX3.out.p HB2.out).mono ?_
 rintro e' w4 ⟨rfl,hx⟩
 have HX4:=zz (HX3.out.trans hx)
 have hr4:=(HA3.out.wx hx).row HRW.out HGB.out
 clear hx c7
 have c0:w4.cell? ⟨g,0,none⟩=some (.int .i64 9):=by rw [cell_of_row w4 g 0 _ _ _ hr4]; rfl
 have c2:w4.cell? ⟨g,2,none⟩=some (.string name):=by rw [cell_of_row w4 g 2 _ _ _ hr4]; rfl
 clear hr4
 go_wp2_with fail
 refine (close_any W B _ w4 HX4.out.p HB4.out).mono ?_
 rintro e' w6 ⟨rfl,hx⟩
 have HX6:=zz (HX4.out.trans hx)
 clear hx
 go_wp2_with fail
 go_returns
 exact ⟨rfl,by rw [HM.out]; exact HX6.out⟩
theorem ex_k10 (W B:Nat) (x:Sy.Wr) (w0 w:World) (g:Nat) (op name base:ByteArray) (stars num:Int) (arr:Bool) (sa:Option Addr) (n sc:Nat) (subs:List Sy.Ex) (hW:WE w W B x) (hA:Agr B w0 w) (hg:g < B)
    (hr:w0.heap[g]?=some (.cells (exRow 10 op name ⟨base,stars⟩ num arr (.slice sa n sc)) 154 (0,0)))
    (hE:∀ (w2:World) (y:Sy.Wr),Agr B w0 w2→WE w2 W B y→(Sy.exsW subs y).out.size≤BIG→Calls Tryz.prog 100 #[.pointer (some ⟨W,0,none⟩),.slice sa n sc] w2 (WrPost w2 W B (Sy.exsW subs y)))
    (ho:Sy.okN stars num=true) (hb:(Sy.exW (.mk 10 op name ⟨base,stars⟩ num arr subs) x).out.size≤BIG) :
    Calls Tryz.prog 99 #[.pointer (some ⟨W,0,none⟩),.pointer (some ⟨g,0,none⟩)] w (WrPost w W B (Sy.exW (.mk 10 op name ⟨base,stars⟩ num arr subs) x)):=by
 have hM:Sy.exW (.mk 10 op name ⟨base,stars⟩ num arr subs) x=Sy.closeW (Sy.partW name (Sy.exsW subs (Sy.openP [⟨#[100,111,116]⟩] x))):=by
  unfold Sy.exW
  simp only [Sy.exHead]
  rfl
 rw [hM] at hb
 have HM:=zz hM
 have HB4:=zz hb
 have hb3:=Nat.le_trans (Sy.close_mono (Sy.partW name (Sy.exsW subs (Sy.openP [⟨#[100,111,116]⟩] x)))) hb
 have HB3:=zz hb3
 have hb2:=Nat.le_trans (Sy.part_mono name (Sy.exsW subs (Sy.openP [⟨#[100,111,116]⟩] x))) hb3
 have HB2:=zz hb2
 have hb1:=Nat.le_trans (Sy.exs_mono subs (Sy.openP [⟨#[100,111,116]⟩] x)) hb2
 have HB1:=zz hb1
 have HWE:=zz hW
 have HAG:=zz hA
 have HGB:=zz hg
 have HRW:=zz hr
 have HEX:=zz hE
 unfold Sy.okN at ho
 rw [decide_eq_true_eq] at ho
 have hrw:=hA.row hr hg
 have c0:w.cell? ⟨g,0,none⟩=some (.int .i64 10):=by rw [cell_of_row w g 0 _ _ _ hrw]; rfl
 have c1:w.cell? ⟨g,1,none⟩=some (.string op):=by rw [cell_of_row w g 1 _ _ _ hrw]; rfl
 have c2:w.cell? ⟨g,2,none⟩=some (.string name):=by rw [cell_of_row w g 2 _ _ _ hrw]; rfl
 clear hM hb hb2 hb1 hW hA hg hr hE ho hrw hb3
 go_enter Tryz.func99,Tryz.ntmps99
 have HKv2:Hid (Keeps No w w):=zz (Keeps.refl _ _)
 have hk3:Keeps No w (w.alloc (.cells #[.string ⟨#[100,111,116]⟩] 9)):=(Keeps.refl _ _).alloc _
 have hp3:(w.alloc (.cells #[.string ⟨#[100,111,116]⟩] 9)).heap[w.heap.size]?=some (.cells #[.string ⟨#[100,111,116]⟩] 9 (0,0)):=heap_alloc_new _ _
 have hne3:w.heap.size ≠ W:=by have:=HWE.out.bw.lt; have:=HKv2.out.size; omega
 have HKv3:Hid (Keeps No w (w.alloc (.cells #[.string ⟨#[100,111,116]⟩] 9))):=zz (HKv2.out.trans hk3 (fun _ _ e=>e))
 have HPT:Hid (Pts (w.alloc (.cells #[.string ⟨#[100,111,116]⟩] 9)) W (.slice (some ⟨w.heap.size,0,none⟩) 1 1) [⟨#[100,111,116]⟩]):=zz ⟨by simp,.inr ⟨w.heap.size,rfl,hp3,hne3⟩⟩
 clear hk3 hp3 hne3
 go_wp2_with fail
 refine (open_any W B x [⟨#[100,111,116]⟩] _ _ (HWE.out.no HKv3.out) HPT.out HB1.out).mono ?_
 rintro e' w3 ⟨rfl,hx⟩
 have HX3:Hid (WX w w3 W B (Sy.openP [⟨#[100,111,116]⟩] x)):=zz (WX.after HKv3.out hx)
 clear hx c0 c1 c2
 have HA3:=zz (HAG.out.wx HX3.out)
 have hr3:=HA3.out.row HRW.out HGB.out
 have c7:w3.cell? ⟨g,7,none⟩=some (.slice sa n sc):=by rw [cell_of_row w3 g 7 _ _ _ hr3]; rfl
 clear hr3
 go_wp2_with fail
 refine (HEX.out w3 _ HA3.out HX3.out.p HB2.out).mono ?_
 rintro e' w4 ⟨rfl,hx⟩
 have HX4:=zz (HX3.out.trans hx)
 have hr4:=(HA3.out.wx hx).row HRW.out HGB.out
 clear hx c7
 have c0:w4.cell? ⟨g,0,none⟩=some (.int .i64 10):=by rw [cell_of_row w4 g 0 _ _ _ hr4]; rfl
 have c2:w4.cell? ⟨g,2,none⟩=some (.string name):=by rw [cell_of_row w4 g 2 _ _ _ hr4]; rfl
 clear hr4
 go_wp2_with fail
 refine (part_any W B _ name w4 HX4.out.p HB3.out).mono ?_
 rintro e' w5 ⟨rfl,hx⟩
 have HX5:=zz (HX4.out.trans hx)
 clear hx c0 c2
 go_wp2_with fail
 refine (close_any W B _ w5 HX5.out.p HB4.out).mono ?_
 rintro e' w6 ⟨rfl,hx⟩
 have HX6:=zz (HX5.out.trans hx)
 clear hx
 go_wp2_with fail
 go_returns
 exact ⟨rfl,by rw [HM.out]; exact HX6.out⟩
theorem ex_k11 (W B:Nat) (x:Sy.Wr) (w0 w:World) (g:Nat) (op name base:ByteArray) (stars num:Int) (arr:Bool) (sa:Option Addr) (n sc:Nat) (subs:List Sy.Ex) (hW:WE w W B x) (hA:Agr B w0 w) (hg:g < B)
    (hr:w0.heap[g]?=some (.cells (exRow 11 op name ⟨base,stars⟩ num arr (.slice sa n sc)) 154 (0,0)))
    (hE:∀ (w2:World) (y:Sy.Wr),Agr B w0 w2→WE w2 W B y→(Sy.exsW subs y).out.size≤BIG→Calls Tryz.prog 100 #[.pointer (some ⟨W,0,none⟩),.slice sa n sc] w2 (WrPost w2 W B (Sy.exsW subs y)))
    (ho:Sy.okN stars num=true) (hb:(Sy.exW (.mk 11 op name ⟨base,stars⟩ num arr subs) x).out.size≤BIG) :
    Calls Tryz.prog 99 #[.pointer (some ⟨W,0,none⟩),.pointer (some ⟨g,0,none⟩)] w (WrPost w W B (Sy.exW (.mk 11 op name ⟨base,stars⟩ num arr subs) x)):=by
 have hM:Sy.exW (.mk 11 op name ⟨base,stars⟩ num arr subs) x=Sy.closeW (Sy.partW name (Sy.exsW subs (Sy.openP [⟨#[97,114,114,111,119]⟩] x))):=by
  unfold Sy.exW
  simp only [Sy.exHead]
  rfl
 rw [hM] at hb
 have HM:=zz hM
 have HB4:=zz hb
 have hb3:=Nat.le_trans (Sy.close_mono (Sy.partW name (Sy.exsW subs (Sy.openP [⟨#[97,114,114,111,119]⟩] x)))) hb
 have HB3:=zz hb3
 have hb2:=Nat.le_trans (Sy.part_mono name (Sy.exsW subs (Sy.openP [⟨#[97,114,114,111,119]⟩] x))) hb3
 have HB2:=zz hb2
 have hb1:=Nat.le_trans (Sy.exs_mono subs (Sy.openP [⟨#[97,114,114,111,119]⟩] x)) hb2
 have HB1:=zz hb1
 have HWE:=zz hW
 have HAG:=zz hA
 have HGB:=zz hg
 have HRW:=zz hr
 have HEX:=zz hE
 unfold Sy.okN at ho
 rw [decide_eq_true_eq] at ho
 have hrw:=hA.row hr hg
 have c0:w.cell? ⟨g,0,none⟩=some (.int .i64 11):=by rw [cell_of_row w g 0 _ _ _ hrw]; rfl
 have c1:w.cell? ⟨g,1,none⟩=some (.string op):=by rw [cell_of_row w g 1 _ _ _ hrw]; rfl
 have c2:w.cell? ⟨g,2,none⟩=some (.string name):=by rw [cell_of_row w g 2 _ _ _ hrw]; rfl
 clear hM hb hb2 hb1 hW hA hg hr hE ho hrw hb3
 go_enter Tryz.func99,Tryz.ntmps99
 have HKv2:Hid (Keeps No w w):=zz (Keeps.refl _ _)
 have hk3:Keeps No w (w.alloc (.cells #[.string ⟨#[97,114,114,111,119]⟩] 9)):=(Keeps.refl _ _).alloc _
 have hp3:(w.alloc (.cells #[.string ⟨#[97,114,114,111,119]⟩] 9)).heap[w.heap.size]?=some (.cells #[.string ⟨#[97,114,114,111,119]⟩] 9 (0,0)):=heap_alloc_new _ _
 have hne3:w.heap.size ≠ W:=by have:=HWE.out.bw.lt; have:=HKv2.out.size; omega
 have HKv3:Hid (Keeps No w (w.alloc (.cells #[.string ⟨#[97,114,114,111,119]⟩] 9))):=zz (HKv2.out.trans hk3 (fun _ _ e=>e))
 have HPT:Hid (Pts (w.alloc (.cells #[.string ⟨#[97,114,114,111,119]⟩] 9)) W (.slice (some ⟨w.heap.size,0,none⟩) 1 1) [⟨#[97,114,114,111,119]⟩]):=zz ⟨by simp,.inr ⟨w.heap.size,rfl,hp3,hne3⟩⟩
 clear hk3 hp3 hne3
 go_wp2_with fail
 refine (open_any W B x [⟨#[97,114,114,111,119]⟩] _ _ (HWE.out.no HKv3.out) HPT.out HB1.out).mono ?_
 rintro e' w3 ⟨rfl,hx⟩
 have HX3:Hid (WX w w3 W B (Sy.openP [⟨#[97,114,114,111,119]⟩] x)):=zz (WX.after HKv3.out hx)
 clear hx c0 c1 c2
 have HA3:=zz (HAG.out.wx HX3.out)
 have hr3:=HA3.out.row HRW.out HGB.out
 have c7:w3.cell? ⟨g,7,none⟩=some (.slice sa n sc):=by rw [cell_of_row w3 g 7 _ _ _ hr3]; rfl
 clear hr3
 go_wp2_with fail
 refine (HEX.out w3 _ HA3.out HX3.out.p HB2.out).mono ?_
 rintro e' w4 ⟨rfl,hx⟩
 have HX4:=zz (HX3.out.trans hx)
 have hr4:=(HA3.out.wx hx).row HRW.out HGB.out
 clear hx c7
 have c0:w4.cell? ⟨g,0,none⟩=some (.int .i64 11):=by rw [cell_of_row w4 g 0 _ _ _ hr4]; rfl
 have c2:w4.cell? ⟨g,2,none⟩=some (.string name):=by rw [cell_of_row w4 g 2 _ _ _ hr4]; rfl
 clear hr4
 go_wp2_with fail
 refine (part_any W B _ name w4 HX4.out.p HB3.out).mono ?_
 rintro e' w5 ⟨rfl,hx⟩
 have HX5:=zz (HX4.out.trans hx)
 clear hx c0 c2
 go_wp2_with fail
 refine (close_any W B _ w5 HX5.out.p HB4.out).mono ?_
 rintro e' w6 ⟨rfl,hx⟩
 have HX6:=zz (HX5.out.trans hx)
 clear hx
 go_wp2_with fail
 go_returns
 exact ⟨rfl,by rw [HM.out]; exact HX6.out⟩
theorem ex_k12 (W B:Nat) (x:Sy.Wr) (w0 w:World) (g:Nat) (op name base:ByteArray) (stars num:Int) (arr:Bool) (sa:Option Addr) (n sc:Nat) (subs:List Sy.Ex) (hW:WE w W B x) (hA:Agr B w0 w) (hg:g < B)
    (hr:w0.heap[g]?=some (.cells (exRow 12 op name ⟨base,stars⟩ num arr (.slice sa n sc)) 154 (0,0)))
    (hE:∀ (w2:World) (y:Sy.Wr),Agr B w0 w2→WE w2 W B y→(Sy.exsW subs y).out.size≤BIG→Calls Tryz.prog 100 #[.pointer (some ⟨W,0,none⟩),.slice sa n sc] w2 (WrPost w2 W B (Sy.exsW subs y)))
    (ho:Sy.okN stars num=true) (hb:(Sy.exW (.mk 12 op name ⟨base,stars⟩ num arr subs) x).out.size≤BIG) :
    Calls Tryz.prog 99 #[.pointer (some ⟨W,0,none⟩),.pointer (some ⟨g,0,none⟩)] w (WrPost w W B (Sy.exW (.mk 12 op name ⟨base,stars⟩ num arr subs) x)):=by
 have hM:Sy.exW (.mk 12 op name ⟨base,stars⟩ num arr subs) x=Sy.closeW (Sy.exsW subs (Sy.openP [⟨#[99,97,108,108]⟩] x)):=by
  unfold Sy.exW
  simp only [Sy.exHead]
  rfl
 rw [hM] at hb
 have HM:=zz hM
 have HB4:=zz hb
 have hb2:=Nat.le_trans (Sy.close_mono (Sy.exsW subs (Sy.openP [⟨#[99,97,108,108]⟩] x))) hb
 have HB2:=zz hb2
 have hb1:=Nat.le_trans (Sy.exs_mono subs (Sy.openP [⟨#[99,97,108,108]⟩] x)) hb2
 have HB1:=zz hb1
 have HWE:=zz hW
 have HAG:=zz hA
 have HGB:=zz hg
 have HRW:=zz hr
 have HEX:=zz hE
 unfold Sy.okN at ho
 rw [decide_eq_true_eq] at ho
 have hrw:=hA.row hr hg
 have c0:w.cell? ⟨g,0,none⟩=some (.int .i64 12):=by rw [cell_of_row w g 0 _ _ _ hrw]; rfl
 have c1:w.cell? ⟨g,1,none⟩=some (.string op):=by rw [cell_of_row w g 1 _ _ _ hrw]; rfl
 have c2:w.cell? ⟨g,2,none⟩=some (.string name):=by rw [cell_of_row w g 2 _ _ _ hrw]; rfl
 clear hM hb hb2 hb1 hW hA hg hr hE ho hrw
 go_enter Tryz.func99,Tryz.ntmps99
 have HKv2:Hid (Keeps No w w):=zz (Keeps.refl _ _)
 have hk3:Keeps No w (w.alloc (.cells #[.string ⟨#[99,97,108,108]⟩] 9)):=(Keeps.refl _ _).alloc _
 have hp3:(w.alloc (.cells #[.string ⟨#[99,97,108,108]⟩] 9)).heap[w.heap.size]?=some (.cells #[.string ⟨#[99,97,108,108]⟩] 9 (0,0)):=heap_alloc_new _ _
 have hne3:w.heap.size ≠ W:=by have:=HWE.out.bw.lt; have:=HKv2.out.size; omega
 have HKv3:Hid (Keeps No w (w.alloc (.cells #[.string ⟨#[99,97,108,108]⟩] 9))):=zz (HKv2.out.trans hk3 (fun _ _ e=>e))
 have HPT:Hid (Pts (w.alloc (.cells #[.string ⟨#[99,97,108,108]⟩] 9)) W (.slice (some ⟨w.heap.size,0,none⟩) 1 1) [⟨#[99,97,108,108]⟩]):=zz ⟨by simp,.inr ⟨w.heap.size,rfl,hp3,hne3⟩⟩
 clear hk3 hp3 hne3
 go_wp2_with fail
 refine (open_any W B x [⟨#[99,97,108,108]⟩] _ _ (HWE.out.no HKv3.out) HPT.out HB1.out).mono ?_
 rintro e' w3 ⟨rfl,hx⟩
 have HX3:Hid (WX w w3 W B (Sy.openP [⟨#[99,97,108,108]⟩] x)):=zz (WX.after HKv3.out hx)
 clear hx c0 c1 c2
 have HA3:=zz (HAG.out.wx HX3.out)
 have hr3:=HA3.out.row HRW.out HGB.out
 have c7:w3.cell? ⟨g,7,none⟩=some (.slice sa n sc):=by rw [cell_of_row w3 g 7 _ _ _ hr3]; rfl
 clear hr3
 go_wp2_with fail
 refine (HEX.out w3 _ HA3.out HX3.out.p HB2.out).mono ?_
 rintro e' w4 ⟨rfl,hx⟩
 have HX4:=zz (HX3.out.trans hx)
 have hr4:=(HA3.out.wx hx).row HRW.out HGB.out
 clear hx c7
 have c0:w4.cell? ⟨g,0,none⟩=some (.int .i64 12):=by rw [cell_of_row w4 g 0 _ _ _ hr4]; rfl
 have c2:w4.cell? ⟨g,2,none⟩=some (.string name):=by rw [cell_of_row w4 g 2 _ _ _ hr4]; rfl
 clear hr4
 go_wp2_with fail
 refine (close_any W B _ w4 HX4.out.p HB4.out).mono ?_
 rintro e' w6 ⟨rfl,hx⟩
 have HX6:=zz (HX4.out.trans hx)
 clear hx
 go_wp2_with fail
 go_returns
 exact ⟨rfl,by rw [HM.out]; exact HX6.out⟩
theorem expr_any (W B:Nat) (w0:World) (a:Option Addr) (e:Sy.Ex) (h:ExD w0 (fun q=>q < B) a e):Sy.okE e=true→Told 99 W B w0 a (Sy.exW e):=by
 induction h with
 | mk g sa sc av kind op name ty num arr subs hD hrow hs hsd hl hsub ih =>
   intro hok w x hA hW hb
   obtain ⟨base,stars⟩:=ty
   unfold Sy.okE at hok
   rw [Bool.and_eq_true,Bool.and_eq_true,decide_eq_true_eq] at hok
   obtain ⟨hk,hn,hss⟩:=hok
   have hE:=exprs_any W B w0 sa sc av subs ⟨hs,hsd⟩ hl (fun i a e h1 h2=>ih i a e h1 h2 (Sy.okEs_get hss h2))
   have hc:kind=1∨kind=2∨kind=3∨kind=4∨kind=5∨kind=6∨kind=7∨kind=8∨kind=9∨kind=10∨kind=11∨kind=12∨kind=13∨kind=14:=by omega
   rcases hc with rfl | rfl | rfl | rfl | rfl | rfl | rfl | rfl | rfl | rfl | rfl | rfl | rfl | rfl
   · exact ex_k1 W B x w0 w g op name base stars num arr sa av.length sc subs hW hA hD hrow hE hn hb
   · exact ex_k2 W B x w0 w g op name base stars num arr sa av.length sc subs hW hA hD hrow hE hn hb
   · exact ex_k3 W B x w0 w g op name base stars num arr sa av.length sc subs hW hA hD hrow hE hn hb
   · exact ex_k4 W B x w0 w g op name base stars num arr sa av.length sc subs hW hA hD hrow hE hn hb
   · exact ex_k5 W B x w0 w g op name base stars num arr sa av.length sc subs hW hA hD hrow hE hn hb
   · exact ex_k6 W B x w0 w g op name base stars num arr sa av.length sc subs hW hA hD hrow hE hn hb
   · exact ex_k7 W B x w0 w g op name base stars num arr sa av.length sc subs hW hA hD hrow hE hn hb
   · exact ex_k8 W B x w0 w g op name base stars num arr sa av.length sc subs hW hA hD hrow hE hn hb
   · exact ex_k9 W B x w0 w g op name base stars num arr sa av.length sc subs hW hA hD hrow hE hn hb
   · exact ex_k10 W B x w0 w g op name base stars num arr sa av.length sc subs hW hA hD hrow hE hn hb
   · exact ex_k11 W B x w0 w g op name base stars num arr sa av.length sc subs hW hA hD hrow hE hn hb
   · exact ex_k12 W B x w0 w g op name base stars num arr sa av.length sc subs hW hA hD hrow hE hn hb
   · exact ex_k13 W B x w0 w g op name base stars num arr sa av.length sc subs hW hA hD hrow hE hn hb
   · exact ex_k14 W B x w0 w g op name base stars num arr sa av.length sc subs hW hA hD hrow hE hn hb
theorem head_as (k:Nat) (hk:k < 17) (z:Int) (hz:z=(k:Int)) (w:World):Calls Tryz.prog 97 #[.int .i64 z] w fun e w'=>e=.returned (.string (Sy.heads.getD k Sy.nt))∧Keeps No w w':=by
 subst hz; exact head_any k hk w
theorem dec_len:∀ (f n:Nat) (acc:List UInt8),(Sy.decL f n acc).length≤f+acc.length
 | 0,n,acc=>by unfold Sy.decL; omega
 | f+1,n,acc=>by
   unfold Sy.decL
   split
   · simp; omega
   · have:=dec_len f (n / 10) (UInt8.ofNat (48+n % 10) :: acc); simp at this ⊢; omega
theorem expr_nil (W B:Nat) (w0:World):Told 99 W B w0 none (Sy.partW Sy.dash):=by
 intro w x hA hW hb
 have HW:=zz hW
 have HB:=zz hb
 clear hA hW hb
 go_enter Tryz.func99,Tryz.ntmps99
 go_wp2_with fail
 refine (part_any W B x Sy.dash w HW.out HB.out).mono ?_
 rintro e' w1 ⟨rfl,hx⟩
 have HX:=zz hx
 clear hx
 go_wp2_with fail
 go_returns
 exact ⟨rfl,HX.out⟩
theorem ix3 (p0 p1 p2:Option Addr) (W:World) :
    (Instr.index 129 (.agg #[.pointer p0,.pointer p1,.pointer p2]) (.int .i64 0)).run Tryz.prog W=.ok (.pointer p0) W ∧
    (Instr.index 129 (.agg #[.pointer p0,.pointer p1,.pointer p2]) (.int .i64 1)).run Tryz.prog W=.ok (.pointer p1) W ∧
    (Instr.index 129 (.agg #[.pointer p0,.pointer p1,.pointer p2]) (.int .i64 2)).run Tryz.prog W=.ok (.pointer p2) W:=by
 refine ⟨?_,?_,?_⟩
 all_goals
  unfold Instr.index
  simp [go_sem,run_underlying Tryz.underlying129]
theorem opt_told (W B:Nat) (w0:World) (a:Option Addr) (e:Option Sy.Ex) (h:OpD w0 (fun q=>q < B) a e) (hk:Sy.okO e=true):Told 99 W B w0 a (Sy.optW e):=by
 cases h with
 | none=>exact expr_nil W B w0
 | some h=>exact expr_any W B w0 a _ h hk
theorem sm_k1 (W B:Nat) (x:Sy.Wr) (w0 w:World) (g:Nat) (vn base name:ByteArray) (stars vnum num:Int) (va minus:Bool) (p0 p1 p2:Option Addr) (e0 e1 e2:Option Sy.Ex) (sa:Option Addr) (n sc:Nat) (body:List Sy.Sm) (hW:WE w W B x) (hA:Agr B w0 w) (hg:g < B)
    (hr:w0.heap[g]?=some (.cells (smRow 1 ⟨vn,⟨base,stars⟩,va,vnum⟩ name minus num p0 p1 p2 (.slice sa n sc)) 132 (0,0)))
    (h0:Told 99 W B w0 p0 (Sy.optW e0)) (h1:Told 99 W B w0 p1 (Sy.optW e1)) (h2:Told 99 W B w0 p2 (Sy.optW e2)) (hl:n=body.length)
    (hE:∀ (w2:World) (y:Sy.Wr),Agr B w0 w2→WE w2 W B y→(Sy.smsW body y).out.size≤BIG→Calls Tryz.prog 98 #[.pointer (some ⟨W,0,none⟩),.slice sa n sc] w2 (WrPost w2 W B (Sy.smsW body y)))
    (ho:Sy.okN stars vnum=true) (hon:Sy.okN 0 num=true) (hb:(Sy.smW (.mk 1 ⟨vn,⟨base,stars⟩,va,vnum⟩ name minus num e0 e1 e2 body) x).out.size≤BIG) :
    Calls Tryz.prog 60 #[.pointer (some ⟨W,0,none⟩),.pointer (some ⟨g,0,none⟩)] w (WrPost w W B (Sy.smW (.mk 1 ⟨vn,⟨base,stars⟩,va,vnum⟩ name minus num e0 e1 e2 body) x)):=by
 have hM:Sy.smW (.mk 1 ⟨vn,⟨base,stars⟩,va,vnum⟩ name minus num e0 e1 e2 body) x=Sy.closeW (Sy.smsW body (Sy.openP [⟨#[98,108,111,99,107]⟩] x)):=by
  unfold Sy.smW
  rfl
 rw [hM] at hb
 have HM:=zz hM
 have HBC:=zz hb
 have hb1:=Nat.le_trans (Sy.close_mono (Sy.smsW body (Sy.openP [⟨#[98,108,111,99,107]⟩] x))) hb
 have hb0:=Nat.le_trans (Sy.sms_mono body (Sy.openP [⟨#[98,108,111,99,107]⟩] x)) hb1
 have HB0:=zz hb0
 have HB1:=zz hb1
 have HWE:=zz hW
 have HAG:=zz hA
 have HGB:=zz hg
 have HRW:=zz hr
 have HEX:=zz hE
 have H0:=zz h0
 have H1:=zz h1
 have H2:=zz h2
 unfold Sy.okN at ho hon
 rw [decide_eq_true_eq] at ho hon
 have hr:=hA.row hr hg
 have c0:w.cell? ⟨g,0,none⟩=some (.int .i64 1):=by rw [cell_of_row w g 0 _ _ _ hr]; rfl
 clear hM hb hb0 hb1 hW hA hg hE h0 h1 h2 ho hon hl hr
 go_enter Tryz.func60,Tryz.ntmps60
 go_wp2_with fail
 refine (head_as 1 (by decide) 1 rfl w).mono ?_
 rintro e' v0 ⟨rfl,hk⟩
 have HKv0:=zz hk
 clear hk c0
 change Hid (Keeps No w v0) at HKv0
 have hk3:Keeps No v0 (v0.alloc (.cells #[.string ⟨#[98,108,111,99,107]⟩] 9)):=(Keeps.refl _ _).alloc _
 have hp3:(v0.alloc (.cells #[.string ⟨#[98,108,111,99,107]⟩] 9)).heap[v0.heap.size]?=some (.cells #[.string ⟨#[98,108,111,99,107]⟩] 9 (0,0)):=heap_alloc_new _ _
 have hne3:v0.heap.size ≠ W:=by have:=HWE.out.bw.lt; have:=HKv0.out.size; omega
 have HKv3:Hid (Keeps No w (v0.alloc (.cells #[.string ⟨#[98,108,111,99,107]⟩] 9))):=zz (HKv0.out.trans hk3 (fun _ _ e=>e))
 have HPT:Hid (Pts (v0.alloc (.cells #[.string ⟨#[98,108,111,99,107]⟩] 9)) W (.slice (some ⟨v0.heap.size,0,none⟩) 1 1) [⟨#[98,108,111,99,107]⟩]):=zz ⟨by simp,.inr ⟨v0.heap.size,rfl,hp3,hne3⟩⟩
 clear hk3 hp3 hne3
 go_wp2_with fail
 refine (open_any W B x [⟨#[98,108,111,99,107]⟩] _ _ (HWE.out.no HKv3.out) HPT.out HB0.out).mono ?_
 rintro e' w1 ⟨rfl,hx⟩
 have HX0:Hid (WX w w1 W B (Sy.openP [⟨#[98,108,111,99,107]⟩] x)):=zz (WX.after HKv3.out hx)
 clear hx
 have HA0:=zz (HAG.out.wx HX0.out)
 have hr:=HA0.out.row HRW.out HGB.out
 have c0:w1.cell? ⟨g,0,none⟩=some (.int .i64 1):=by rw [cell_of_row w1 g 0 _ _ _ hr]; rfl
 have c12:w1.cell? ⟨g,12,none⟩=some (.slice sa n sc):=by rw [cell_of_row w1 g 12 _ _ _ hr]; rfl
 clear hr
 go_wp2_with fail
 refine (HEX.out w1 (Sy.openP [⟨#[98,108,111,99,107]⟩] x) HA0.out HX0.out.p HB1.out).mono ?_
 rintro e' w2 ⟨rfl,hx⟩
 have HX1:=zz (HX0.out.trans hx)
 have HA1:=zz (HA0.out.wx hx)
 have hr:=HA1.out.row HRW.out HGB.out
 clear hx c0 c12
 clear hr
 go_wp2_with fail
 refine (close_any W B (Sy.smsW body (Sy.openP [⟨#[98,108,111,99,107]⟩] x)) w2 HX1.out.p HBC.out).mono ?_
 rintro e' z9 ⟨rfl,hx⟩
 have HX9:=zz (HX1.out.trans hx)
 clear hx
 go_wp2_with fail
 go_returns
 exact ⟨rfl,by rw [HM.out]; exact HX9.out⟩
theorem sm_k2 (W B:Nat) (x:Sy.Wr) (w0 w:World) (g:Nat) (vn base name:ByteArray) (stars vnum num:Int) (va minus:Bool) (p0 p1 p2:Option Addr) (e0 e1 e2:Option Sy.Ex) (sa:Option Addr) (n sc:Nat) (body:List Sy.Sm) (hW:WE w W B x) (hA:Agr B w0 w) (hg:g < B)
    (hr:w0.heap[g]?=some (.cells (smRow 2 ⟨vn,⟨base,stars⟩,va,vnum⟩ name minus num p0 p1 p2 (.slice sa n sc)) 132 (0,0)))
    (h0:Told 99 W B w0 p0 (Sy.optW e0)) (h1:Told 99 W B w0 p1 (Sy.optW e1)) (h2:Told 99 W B w0 p2 (Sy.optW e2)) (hl:n=body.length)
    (hE:∀ (w2:World) (y:Sy.Wr),Agr B w0 w2→WE w2 W B y→(Sy.smsW body y).out.size≤BIG→Calls Tryz.prog 98 #[.pointer (some ⟨W,0,none⟩),.slice sa n sc] w2 (WrPost w2 W B (Sy.smsW body y)))
    (ho:Sy.okN stars vnum=true) (hon:Sy.okN 0 num=true) (hb:(Sy.smW (.mk 2 ⟨vn,⟨base,stars⟩,va,vnum⟩ name minus num e0 e1 e2 body) x).out.size≤BIG) :
    Calls Tryz.prog 60 #[.pointer (some ⟨W,0,none⟩),.pointer (some ⟨g,0,none⟩)] w (WrPost w W B (Sy.smW (.mk 2 ⟨vn,⟨base,stars⟩,va,vnum⟩ name minus num e0 e1 e2 body) x)):=by
 have hM:Sy.smW (.mk 2 ⟨vn,⟨base,stars⟩,va,vnum⟩ name minus num e0 e1 e2 body) x=Sy.closeW (Sy.openP [⟨#[115,107,105,112]⟩] x):=by
  unfold Sy.smW
  rfl
 rw [hM] at hb
 have HM:=zz hM
 have HBC:=zz hb
 have hb0:=Nat.le_trans (Sy.close_mono (Sy.openP [⟨#[115,107,105,112]⟩] x)) hb
 have HB0:=zz hb0
 have HWE:=zz hW
 have HAG:=zz hA
 have HGB:=zz hg
 have HRW:=zz hr
 have HEX:=zz hE
 have H0:=zz h0
 have H1:=zz h1
 have H2:=zz h2
 unfold Sy.okN at ho hon
 rw [decide_eq_true_eq] at ho hon
 have hr:=hA.row hr hg
 have c0:w.cell? ⟨g,0,none⟩=some (.int .i64 2):=by rw [cell_of_row w g 0 _ _ _ hr]; rfl
 clear hM hb hb0 hW hA hg hE h0 h1 h2 ho hon hl hr
 go_enter Tryz.func60,Tryz.ntmps60
 go_wp2_with fail
 refine (head_as 2 (by decide) 2 rfl w).mono ?_
 rintro e' v0 ⟨rfl,hk⟩
 have HKv0:=zz hk
 clear hk c0
 change Hid (Keeps No w v0) at HKv0
 have hk3:Keeps No v0 (v0.alloc (.cells #[.string ⟨#[115,107,105,112]⟩] 9)):=(Keeps.refl _ _).alloc _
 have hp3:(v0.alloc (.cells #[.string ⟨#[115,107,105,112]⟩] 9)).heap[v0.heap.size]?=some (.cells #[.string ⟨#[115,107,105,112]⟩] 9 (0,0)):=heap_alloc_new _ _
 have hne3:v0.heap.size ≠ W:=by have:=HWE.out.bw.lt; have:=HKv0.out.size; omega
 have HKv3:Hid (Keeps No w (v0.alloc (.cells #[.string ⟨#[115,107,105,112]⟩] 9))):=zz (HKv0.out.trans hk3 (fun _ _ e=>e))
 have HPT:Hid (Pts (v0.alloc (.cells #[.string ⟨#[115,107,105,112]⟩] 9)) W (.slice (some ⟨v0.heap.size,0,none⟩) 1 1) [⟨#[115,107,105,112]⟩]):=zz ⟨by simp,.inr ⟨v0.heap.size,rfl,hp3,hne3⟩⟩
 clear hk3 hp3 hne3
 go_wp2_with fail
 refine (open_any W B x [⟨#[115,107,105,112]⟩] _ _ (HWE.out.no HKv3.out) HPT.out HB0.out).mono ?_
 rintro e' w1 ⟨rfl,hx⟩
 have HX0:Hid (WX w w1 W B (Sy.openP [⟨#[115,107,105,112]⟩] x)):=zz (WX.after HKv3.out hx)
 clear hx
 have HA0:=zz (HAG.out.wx HX0.out)
 have hr:=HA0.out.row HRW.out HGB.out
 have c0:w1.cell? ⟨g,0,none⟩=some (.int .i64 2):=by rw [cell_of_row w1 g 0 _ _ _ hr]; rfl
 clear hr
 go_wp2_with fail
 refine (close_any W B (Sy.openP [⟨#[115,107,105,112]⟩] x) w1 HX0.out.p HBC.out).mono ?_
 rintro e' z9 ⟨rfl,hx⟩
 have HX9:=zz (HX0.out.trans hx)
 clear hx
 go_wp2_with fail
 go_returns
 exact ⟨rfl,by rw [HM.out]; exact HX9.out⟩
theorem sm_k3 (W B:Nat) (x:Sy.Wr) (w0 w:World) (g:Nat) (vn base name:ByteArray) (stars vnum num:Int) (va minus:Bool) (p0 p1 p2:Option Addr) (e0 e1 e2:Option Sy.Ex) (sa:Option Addr) (n sc:Nat) (body:List Sy.Sm) (hW:WE w W B x) (hA:Agr B w0 w) (hg:g < B)
    (hr:w0.heap[g]?=some (.cells (smRow 3 ⟨vn,⟨base,stars⟩,va,vnum⟩ name minus num p0 p1 p2 (.slice sa n sc)) 132 (0,0)))
    (h0:Told 99 W B w0 p0 (Sy.optW e0)) (h1:Told 99 W B w0 p1 (Sy.optW e1)) (h2:Told 99 W B w0 p2 (Sy.optW e2)) (hl:n=body.length)
    (hE:∀ (w2:World) (y:Sy.Wr),Agr B w0 w2→WE w2 W B y→(Sy.smsW body y).out.size≤BIG→Calls Tryz.prog 98 #[.pointer (some ⟨W,0,none⟩),.slice sa n sc] w2 (WrPost w2 W B (Sy.smsW body y)))
    (ho:Sy.okN stars vnum=true) (hon:Sy.okN 0 num=true) (hb:(Sy.smW (.mk 3 ⟨vn,⟨base,stars⟩,va,vnum⟩ name minus num e0 e1 e2 body) x).out.size≤BIG) :
    Calls Tryz.prog 60 #[.pointer (some ⟨W,0,none⟩),.pointer (some ⟨g,0,none⟩)] w (WrPost w W B (Sy.smW (.mk 3 ⟨vn,⟨base,stars⟩,va,vnum⟩ name minus num e0 e1 e2 body) x)):=by
 obtain ⟨tt,htt⟩:∃ t,Sy.tyM ⟨base,stars⟩=t:=⟨_,rfl⟩
 obtain ⟨dn,hdn⟩:∃ t,Sy.decM vnum=t:=⟨_,rfl⟩
 have hM:Sy.smW (.mk 3 ⟨vn,⟨base,stars⟩,va,vnum⟩ name minus num e0 e1 e2 body) x=Sy.closeW (Sy.optW e0 (Sy.partW dn (Sy.partW vn (Sy.partW tt (Sy.openP [⟨#[108,101,116]⟩] x))))):=by
  unfold Sy.smW
  simp only [htt,hdn]
  rfl
 rw [hM] at hb
 have HM:=zz hM
 have HBC:=zz hb
 have hb4:=Nat.le_trans (Sy.close_mono (Sy.optW e0 (Sy.partW dn (Sy.partW vn (Sy.partW tt (Sy.openP [⟨#[108,101,116]⟩] x)))))) hb
 have hb3:=Nat.le_trans (Sy.opt_mono e0 (Sy.partW dn (Sy.partW vn (Sy.partW tt (Sy.openP [⟨#[108,101,116]⟩] x))))) hb4
 have hb2:=Nat.le_trans (Sy.part_mono dn (Sy.partW vn (Sy.partW tt (Sy.openP [⟨#[108,101,116]⟩] x)))) hb3
 have hb1:=Nat.le_trans (Sy.part_mono vn (Sy.partW tt (Sy.openP [⟨#[108,101,116]⟩] x))) hb2
 have hb0:=Nat.le_trans (Sy.part_mono tt (Sy.openP [⟨#[108,101,116]⟩] x)) hb1
 have HB0:=zz hb0
 have HB1:=zz hb1
 have HB2:=zz hb2
 have HB3:=zz hb3
 have HB4:=zz hb4
 have HWE:=zz hW
 have HAG:=zz hA
 have HGB:=zz hg
 have HRW:=zz hr
 have HEX:=zz hE
 have H0:=zz h0
 have H1:=zz h1
 have H2:=zz h2
 unfold Sy.okN at ho hon
 rw [decide_eq_true_eq] at ho hon
 have HTX:=zz (fun W=>text_any base stars tt ho.1 (by omega) (by
  have e:base.size≤tt.size:=by rw [← htt]; show base.size≤(base++Sy.starL stars.toNat).size; rw [ByteArray.size_append]; omega
  have e2:=Nat.le_trans (Nat.le_trans (Nat.le_add_left _ _) (Sy.part_le tt (Sy.openP [⟨#[108,101,116]⟩] x))) hb1
  unfold BIG at e2; omega) htt W)
 have HDC:=zz (fun W hl=>decimal_any vnum dn ho.2.2.1 ho.2.2.2 hdn W hl)
 have hr:=hA.row hr hg
 have c0:w.cell? ⟨g,0,none⟩=some (.int .i64 3):=by rw [cell_of_row w g 0 _ _ _ hr]; rfl
 clear hM hb hb0 hb1 hb2 hb3 hb4 hW hA hg hE h0 h1 h2 ho hon hl hr htt hdn
 go_enter Tryz.func60,Tryz.ntmps60
 go_wp2_with fail
 refine (head_as 3 (by decide) 3 rfl w).mono ?_
 rintro e' v0 ⟨rfl,hk⟩
 have HKv0:=zz hk
 clear hk c0
 change Hid (Keeps No w v0) at HKv0
 have hk3:Keeps No v0 (v0.alloc (.cells #[.string ⟨#[108,101,116]⟩] 9)):=(Keeps.refl _ _).alloc _
 have hp3:(v0.alloc (.cells #[.string ⟨#[108,101,116]⟩] 9)).heap[v0.heap.size]?=some (.cells #[.string ⟨#[108,101,116]⟩] 9 (0,0)):=heap_alloc_new _ _
 have hne3:v0.heap.size ≠ W:=by have:=HWE.out.bw.lt; have:=HKv0.out.size; omega
 have HKv3:Hid (Keeps No w (v0.alloc (.cells #[.string ⟨#[108,101,116]⟩] 9))):=zz (HKv0.out.trans hk3 (fun _ _ e=>e))
 have HPT:Hid (Pts (v0.alloc (.cells #[.string ⟨#[108,101,116]⟩] 9)) W (.slice (some ⟨v0.heap.size,0,none⟩) 1 1) [⟨#[108,101,116]⟩]):=zz ⟨by simp,.inr ⟨v0.heap.size,rfl,hp3,hne3⟩⟩
 clear hk3 hp3 hne3
 go_wp2_with fail
 refine (open_any W B x [⟨#[108,101,116]⟩] _ _ (HWE.out.no HKv3.out) HPT.out HB0.out).mono ?_
 rintro e' w1 ⟨rfl,hx⟩
 have HX0:Hid (WX w w1 W B (Sy.openP [⟨#[108,101,116]⟩] x)):=zz (WX.after HKv3.out hx)
 clear hx
 have HA0:=zz (HAG.out.wx HX0.out)
 have hr:=HA0.out.row HRW.out HGB.out
 have c0:w1.cell? ⟨g,0,none⟩=some (.int .i64 3):=by rw [cell_of_row w1 g 0 _ _ _ hr]; rfl
 have c2:w1.cell? ⟨g,2,none⟩=some (.string base):=by rw [cell_of_row w1 g 2 _ _ _ hr]; rfl
 have c3:w1.cell? ⟨g,3,none⟩=some (.int .i64 stars):=by rw [cell_of_row w1 g 3 _ _ _ hr]; rfl
 clear hr
 go_wp2_with fail
 refine (HTX.out w1).mono ?_
 rintro e' u0 ⟨rfl,hk⟩
 have HK0:=zz hk
 clear hk
 go_wp2_with fail
 refine (part_any W B (Sy.openP [⟨#[108,101,116]⟩] x) tt u0 (HX0.out.p.no HK0.out) HB1.out).mono ?_
 rintro e' w2 ⟨rfl,hx0⟩
 have hx:=WX.after HK0.out hx0
 clear hx0
 have HX1:=zz (HX0.out.trans hx)
 have HA1:=zz (HA0.out.wx hx)
 have hr:=HA1.out.row HRW.out HGB.out
 clear hx c0 c2 c3
 have c1:w2.cell? ⟨g,1,none⟩=some (.string vn):=by rw [cell_of_row w2 g 1 _ _ _ hr]; rfl
 clear hr
 go_wp2_with fail
 refine (part_any W B (Sy.partW tt (Sy.openP [⟨#[108,101,116]⟩] x)) vn w2 HX1.out.p HB2.out).mono ?_
 rintro e' w3 ⟨rfl,hx⟩
 have HX2:=zz (HX1.out.trans hx)
 have HA2:=zz (HA1.out.wx hx)
 have hr:=HA2.out.row HRW.out HGB.out
 clear hx c1
 have c5:w3.cell? ⟨g,5,none⟩=some (.int .u64 vnum):=by rw [cell_of_row w3 g 5 _ _ _ hr]; rfl
 clear hr
 go_wp2_with fail
 refine (HDC.out w3 HX2.out.p.lp).mono ?_
 rintro e' u2 ⟨rfl,hk⟩
 have HK2:=zz hk
 clear hk
 go_wp2_with fail
 refine (part_any W B (Sy.partW vn (Sy.partW tt (Sy.openP [⟨#[108,101,116]⟩] x))) dn u2 (HX2.out.p.no HK2.out) HB3.out).mono ?_
 rintro e' w4 ⟨rfl,hx0⟩
 have hx:=WX.after HK2.out hx0
 clear hx0
 have HX3:=zz (HX2.out.trans hx)
 have HA3:=zz (HA2.out.wx hx)
 have hr:=HA3.out.row HRW.out HGB.out
 clear hx c5
 have c9:w4.cell? ⟨g,9,none⟩=some (.pointer p0):=by rw [cell_of_row w4 g 9 _ _ _ hr]; rfl
 clear hr
 go_wp2_with fail
 refine (H0.out w4 (Sy.partW dn (Sy.partW vn (Sy.partW tt (Sy.openP [⟨#[108,101,116]⟩] x)))) HA3.out HX3.out.p HB4.out).mono ?_
 rintro e' w5 ⟨rfl,hx⟩
 have HX4:=zz (HX3.out.trans hx)
 have HA4:=zz (HA3.out.wx hx)
 have hr:=HA4.out.row HRW.out HGB.out
 clear hx c9
 clear hr
 go_wp2_with fail
 refine (close_any W B (Sy.optW e0 (Sy.partW dn (Sy.partW vn (Sy.partW tt (Sy.openP [⟨#[108,101,116]⟩] x))))) w5 HX4.out.p HBC.out).mono ?_
 rintro e' z9 ⟨rfl,hx⟩
 have HX9:=zz (HX4.out.trans hx)
 clear hx
 go_wp2_with fail
 go_returns
 exact ⟨rfl,by rw [HM.out]; exact HX9.out⟩
theorem sm_k4a (W B:Nat) (x:Sy.Wr) (w0 w:World) (g:Nat) (vn base name:ByteArray) (stars vnum num:Int) (va minus:Bool) (p0 p1 p2:Option Addr) (e0 e1 e2:Option Sy.Ex) (sa:Option Addr) (n sc:Nat) (body:List Sy.Sm) (hW:WE w W B x) (hA:Agr B w0 w) (hg:g < B)
    (hr:w0.heap[g]?=some (.cells (smRow 4 ⟨vn,⟨base,stars⟩,va,vnum⟩ name minus num p0 p1 p2 (.slice sa n sc)) 132 (0,0)))
    (h0:Told 99 W B w0 p0 (Sy.optW e0)) (h1:Told 99 W B w0 p1 (Sy.optW e1)) (h2:Told 99 W B w0 p2 (Sy.optW e2)) (hl:n=body.length)
    (hE:∀ (w2:World) (y:Sy.Wr),Agr B w0 w2→WE w2 W B y→(Sy.smsW body y).out.size≤BIG→Calls Tryz.prog 98 #[.pointer (some ⟨W,0,none⟩),.slice sa n sc] w2 (WrPost w2 W B (Sy.smsW body y)))
    (ho:Sy.okN stars vnum=true) (hon:Sy.okN 0 num=true) (hq:body.length=1) (hb:(Sy.smW (.mk 4 ⟨vn,⟨base,stars⟩,va,vnum⟩ name minus num e0 e1 e2 body) x).out.size≤BIG) :
    Calls Tryz.prog 60 #[.pointer (some ⟨W,0,none⟩),.pointer (some ⟨g,0,none⟩)] w (WrPost w W B (Sy.smW (.mk 4 ⟨vn,⟨base,stars⟩,va,vnum⟩ name minus num e0 e1 e2 body) x)):=by
 have q4:((n:Int) == 1)=true:=beq_iff_eq.2 (by omega)
 have hM:Sy.smW (.mk 4 ⟨vn,⟨base,stars⟩,va,vnum⟩ name minus num e0 e1 e2 body) x=Sy.closeW (Sy.partW Sy.dash (Sy.smsW body (Sy.optW e0 (Sy.openP [⟨#[105,102]⟩] x)))):=by
  unfold Sy.smW
  show Sy.closeW (if body.length=1 then _ else _)=_
  rw [if_pos hq]; rfl
 rw [hM] at hb
 have HM:=zz hM
 have HBC:=zz hb
 have hb3:=Nat.le_trans (Sy.close_mono (Sy.partW Sy.dash (Sy.smsW body (Sy.optW e0 (Sy.openP [⟨#[105,102]⟩] x))))) hb
 have hb2:=Nat.le_trans (Sy.part_mono Sy.dash (Sy.smsW body (Sy.optW e0 (Sy.openP [⟨#[105,102]⟩] x)))) hb3
 have hb1:=Nat.le_trans (Sy.sms_mono body (Sy.optW e0 (Sy.openP [⟨#[105,102]⟩] x))) hb2
 have hb0:=Nat.le_trans (Sy.opt_mono e0 (Sy.openP [⟨#[105,102]⟩] x)) hb1
 have HB0:=zz hb0
 have HB1:=zz hb1
 have HB2:=zz hb2
 have HB3:=zz hb3
 have HWE:=zz hW
 have HAG:=zz hA
 have HGB:=zz hg
 have HRW:=zz hr
 have HEX:=zz hE
 have H0:=zz h0
 have H1:=zz h1
 have H2:=zz h2
 unfold Sy.okN at ho hon
 rw [decide_eq_true_eq] at ho hon
 have hr:=hA.row hr hg
 have c0:w.cell? ⟨g,0,none⟩=some (.int .i64 4):=by rw [cell_of_row w g 0 _ _ _ hr]; rfl
 clear hM hb hb0 hb1 hb2 hb3 hW hA hg hE h0 h1 h2 ho hon hl hr hq
 go_enter Tryz.func60,Tryz.ntmps60
 go_wp2_with fail
 refine (head_as 4 (by decide) 4 rfl w).mono ?_
 rintro e' v0 ⟨rfl,hk⟩
 have HKv0:=zz hk
 clear hk c0
 change Hid (Keeps No w v0) at HKv0
 have hk3:Keeps No v0 (v0.alloc (.cells #[.string ⟨#[105,102]⟩] 9)):=(Keeps.refl _ _).alloc _
 have hp3:(v0.alloc (.cells #[.string ⟨#[105,102]⟩] 9)).heap[v0.heap.size]?=some (.cells #[.string ⟨#[105,102]⟩] 9 (0,0)):=heap_alloc_new _ _
 have hne3:v0.heap.size ≠ W:=by have:=HWE.out.bw.lt; have:=HKv0.out.size; omega
 have HKv3:Hid (Keeps No w (v0.alloc (.cells #[.string ⟨#[105,102]⟩] 9))):=zz (HKv0.out.trans hk3 (fun _ _ e=>e))
 have HPT:Hid (Pts (v0.alloc (.cells #[.string ⟨#[105,102]⟩] 9)) W (.slice (some ⟨v0.heap.size,0,none⟩) 1 1) [⟨#[105,102]⟩]):=zz ⟨by simp,.inr ⟨v0.heap.size,rfl,hp3,hne3⟩⟩
 clear hk3 hp3 hne3
 go_wp2_with fail
 refine (open_any W B x [⟨#[105,102]⟩] _ _ (HWE.out.no HKv3.out) HPT.out HB0.out).mono ?_
 rintro e' w1 ⟨rfl,hx⟩
 have HX0:Hid (WX w w1 W B (Sy.openP [⟨#[105,102]⟩] x)):=zz (WX.after HKv3.out hx)
 clear hx
 have HA0:=zz (HAG.out.wx HX0.out)
 have hr:=HA0.out.row HRW.out HGB.out
 have c0:w1.cell? ⟨g,0,none⟩=some (.int .i64 4):=by rw [cell_of_row w1 g 0 _ _ _ hr]; rfl
 have c9:w1.cell? ⟨g,9,none⟩=some (.pointer p0):=by rw [cell_of_row w1 g 9 _ _ _ hr]; rfl
 clear hr
 go_wp2_with fail
 refine (H0.out w1 (Sy.openP [⟨#[105,102]⟩] x) HA0.out HX0.out.p HB1.out).mono ?_
 rintro e' w2 ⟨rfl,hx⟩
 have HX1:=zz (HX0.out.trans hx)
 have HA1:=zz (HA0.out.wx hx)
 have hr:=HA1.out.row HRW.out HGB.out
 clear hx c0 c9
 have c12:w2.cell? ⟨g,12,none⟩=some (.slice sa n sc):=by rw [cell_of_row w2 g 12 _ _ _ hr]; rfl
 clear hr
 go_wp2_with fail
 refine (HEX.out w2 (Sy.optW e0 (Sy.openP [⟨#[105,102]⟩] x)) HA1.out HX1.out.p HB2.out).mono ?_
 rintro e' w3 ⟨rfl,hx⟩
 have HX2:=zz (HX1.out.trans hx)
 have HA2:=zz (HA1.out.wx hx)
 have hr:=HA2.out.row HRW.out HGB.out
 clear hx c12
 have c12:w3.cell? ⟨g,12,none⟩=some (.slice sa n sc):=by rw [cell_of_row w3 g 12 _ _ _ hr]; rfl
 clear hr
 go_wp2_with fail
 refine (part_any W B (Sy.smsW body (Sy.optW e0 (Sy.openP [⟨#[105,102]⟩] x))) Sy.dash w3 HX2.out.p HB3.out).mono ?_
 rintro e' w4 ⟨rfl,hx⟩
 have HX3:=zz (HX2.out.trans hx)
 have HA3:=zz (HA2.out.wx hx)
 have hr:=HA3.out.row HRW.out HGB.out
 clear hx c12
 clear hr
 go_wp2_with fail
 refine (close_any W B (Sy.partW Sy.dash (Sy.smsW body (Sy.optW e0 (Sy.openP [⟨#[105,102]⟩] x)))) w4 HX3.out.p HBC.out).mono ?_
 rintro e' z9 ⟨rfl,hx⟩
 have HX9:=zz (HX3.out.trans hx)
 clear hx
 go_wp2_with fail
 go_returns
 exact ⟨rfl,by rw [HM.out]; exact HX9.out⟩
theorem sm_k4b (W B:Nat) (x:Sy.Wr) (w0 w:World) (g:Nat) (vn base name:ByteArray) (stars vnum num:Int) (va minus:Bool) (p0 p1 p2:Option Addr) (e0 e1 e2:Option Sy.Ex) (sa:Option Addr) (n sc:Nat) (body:List Sy.Sm) (hW:WE w W B x) (hA:Agr B w0 w) (hg:g < B)
    (hr:w0.heap[g]?=some (.cells (smRow 4 ⟨vn,⟨base,stars⟩,va,vnum⟩ name minus num p0 p1 p2 (.slice sa n sc)) 132 (0,0)))
    (h0:Told 99 W B w0 p0 (Sy.optW e0)) (h1:Told 99 W B w0 p1 (Sy.optW e1)) (h2:Told 99 W B w0 p2 (Sy.optW e2)) (hl:n=body.length)
    (hE:∀ (w2:World) (y:Sy.Wr),Agr B w0 w2→WE w2 W B y→(Sy.smsW body y).out.size≤BIG→Calls Tryz.prog 98 #[.pointer (some ⟨W,0,none⟩),.slice sa n sc] w2 (WrPost w2 W B (Sy.smsW body y)))
    (ho:Sy.okN stars vnum=true) (hon:Sy.okN 0 num=true) (hq:¬ body.length=1) (hb:(Sy.smW (.mk 4 ⟨vn,⟨base,stars⟩,va,vnum⟩ name minus num e0 e1 e2 body) x).out.size≤BIG) :
    Calls Tryz.prog 60 #[.pointer (some ⟨W,0,none⟩),.pointer (some ⟨g,0,none⟩)] w (WrPost w W B (Sy.smW (.mk 4 ⟨vn,⟨base,stars⟩,va,vnum⟩ name minus num e0 e1 e2 body) x)):=by
 have q4:((n:Int) == 1)=false:=beq_eq_false_iff_ne.2 (by omega)
 have hM:Sy.smW (.mk 4 ⟨vn,⟨base,stars⟩,va,vnum⟩ name minus num e0 e1 e2 body) x=Sy.closeW (Sy.smsW body (Sy.optW e0 (Sy.openP [⟨#[105,102]⟩] x))):=by
  unfold Sy.smW
  show Sy.closeW (if body.length=1 then _ else _)=_
  rw [if_neg hq]; rfl
 rw [hM] at hb
 have HM:=zz hM
 have HBC:=zz hb
 have hb2:=Nat.le_trans (Sy.close_mono (Sy.smsW body (Sy.optW e0 (Sy.openP [⟨#[105,102]⟩] x)))) hb
 have hb1:=Nat.le_trans (Sy.sms_mono body (Sy.optW e0 (Sy.openP [⟨#[105,102]⟩] x))) hb2
 have hb0:=Nat.le_trans (Sy.opt_mono e0 (Sy.openP [⟨#[105,102]⟩] x)) hb1
 have HB0:=zz hb0
 have HB1:=zz hb1
 have HB2:=zz hb2
 have HWE:=zz hW
 have HAG:=zz hA
 have HGB:=zz hg
 have HRW:=zz hr
 have HEX:=zz hE
 have H0:=zz h0
 have H1:=zz h1
 have H2:=zz h2
 unfold Sy.okN at ho hon
 rw [decide_eq_true_eq] at ho hon
 have hr:=hA.row hr hg
 have c0:w.cell? ⟨g,0,none⟩=some (.int .i64 4):=by rw [cell_of_row w g 0 _ _ _ hr]; rfl
 clear hM hb hb0 hb1 hb2 hW hA hg hE h0 h1 h2 ho hon hl hr hq
 go_enter Tryz.func60,Tryz.ntmps60
 go_wp2_with fail
 refine (head_as 4 (by decide) 4 rfl w).mono ?_
 rintro e' v0 ⟨rfl,hk⟩
 have HKv0:=zz hk
 clear hk c0
 change Hid (Keeps No w v0) at HKv0
 have hk3:Keeps No v0 (v0.alloc (.cells #[.string ⟨#[105,102]⟩] 9)):=(Keeps.refl _ _).alloc _
 have hp3:(v0.alloc (.cells #[.string ⟨#[105,102]⟩] 9)).heap[v0.heap.size]?=some (.cells #[.string ⟨#[105,102]⟩] 9 (0,0)):=heap_alloc_new _ _
 have hne3:v0.heap.size ≠ W:=by have:=HWE.out.bw.lt; have:=HKv0.out.size; omega
 have HKv3:Hid (Keeps No w (v0.alloc (.cells #[.string ⟨#[105,102]⟩] 9))):=zz (HKv0.out.trans hk3 (fun _ _ e=>e))
 have HPT:Hid (Pts (v0.alloc (.cells #[.string ⟨#[105,102]⟩] 9)) W (.slice (some ⟨v0.heap.size,0,none⟩) 1 1) [⟨#[105,102]⟩]):=zz ⟨by simp,.inr ⟨v0.heap.size,rfl,hp3,hne3⟩⟩
 clear hk3 hp3 hne3
 go_wp2_with fail
 refine (open_any W B x [⟨#[105,102]⟩] _ _ (HWE.out.no HKv3.out) HPT.out HB0.out).mono ?_
 rintro e' w1 ⟨rfl,hx⟩
 have HX0:Hid (WX w w1 W B (Sy.openP [⟨#[105,102]⟩] x)):=zz (WX.after HKv3.out hx)
 clear hx
 have HA0:=zz (HAG.out.wx HX0.out)
 have hr:=HA0.out.row HRW.out HGB.out
 have c0:w1.cell? ⟨g,0,none⟩=some (.int .i64 4):=by rw [cell_of_row w1 g 0 _ _ _ hr]; rfl
 have c9:w1.cell? ⟨g,9,none⟩=some (.pointer p0):=by rw [cell_of_row w1 g 9 _ _ _ hr]; rfl
 clear hr
 go_wp2_with fail
 refine (H0.out w1 (Sy.openP [⟨#[105,102]⟩] x) HA0.out HX0.out.p HB1.out).mono ?_
 rintro e' w2 ⟨rfl,hx⟩
 have HX1:=zz (HX0.out.trans hx)
 have HA1:=zz (HA0.out.wx hx)
 have hr:=HA1.out.row HRW.out HGB.out
 clear hx c0 c9
 have c12:w2.cell? ⟨g,12,none⟩=some (.slice sa n sc):=by rw [cell_of_row w2 g 12 _ _ _ hr]; rfl
 clear hr
 go_wp2_with fail
 refine (HEX.out w2 (Sy.optW e0 (Sy.openP [⟨#[105,102]⟩] x)) HA1.out HX1.out.p HB2.out).mono ?_
 rintro e' w3 ⟨rfl,hx⟩
 have HX2:=zz (HX1.out.trans hx)
 have HA2:=zz (HA1.out.wx hx)
 have hr:=HA2.out.row HRW.out HGB.out
 clear hx c12
 have c12:w3.cell? ⟨g,12,none⟩=some (.slice sa n sc):=by rw [cell_of_row w3 g 12 _ _ _ hr]; rfl
 clear hr
 go_wp2_with fail
 refine (close_any W B (Sy.smsW body (Sy.optW e0 (Sy.openP [⟨#[105,102]⟩] x))) w3 HX2.out.p HBC.out).mono ?_
 rintro e' z9 ⟨rfl,hx⟩
 have HX9:=zz (HX2.out.trans hx)
 clear hx
 go_wp2_with fail
 go_returns
 exact ⟨rfl,by rw [HM.out]; exact HX9.out⟩
theorem sm_k5 (W B:Nat) (x:Sy.Wr) (w0 w:World) (g:Nat) (vn base name:ByteArray) (stars vnum num:Int) (va minus:Bool) (p0 p1 p2:Option Addr) (e0 e1 e2:Option Sy.Ex) (sa:Option Addr) (n sc:Nat) (body:List Sy.Sm) (hW:WE w W B x) (hA:Agr B w0 w) (hg:g < B)
    (hr:w0.heap[g]?=some (.cells (smRow 5 ⟨vn,⟨base,stars⟩,va,vnum⟩ name minus num p0 p1 p2 (.slice sa n sc)) 132 (0,0)))
    (h0:Told 99 W B w0 p0 (Sy.optW e0)) (h1:Told 99 W B w0 p1 (Sy.optW e1)) (h2:Told 99 W B w0 p2 (Sy.optW e2)) (hl:n=body.length)
    (hE:∀ (w2:World) (y:Sy.Wr),Agr B w0 w2→WE w2 W B y→(Sy.smsW body y).out.size≤BIG→Calls Tryz.prog 98 #[.pointer (some ⟨W,0,none⟩),.slice sa n sc] w2 (WrPost w2 W B (Sy.smsW body y)))
    (ho:Sy.okN stars vnum=true) (hon:Sy.okN 0 num=true) (hb:(Sy.smW (.mk 5 ⟨vn,⟨base,stars⟩,va,vnum⟩ name minus num e0 e1 e2 body) x).out.size≤BIG) :
    Calls Tryz.prog 60 #[.pointer (some ⟨W,0,none⟩),.pointer (some ⟨g,0,none⟩)] w (WrPost w W B (Sy.smW (.mk 5 ⟨vn,⟨base,stars⟩,va,vnum⟩ name minus num e0 e1 e2 body) x)):=by
 have hM:Sy.smW (.mk 5 ⟨vn,⟨base,stars⟩,va,vnum⟩ name minus num e0 e1 e2 body) x=Sy.closeW (Sy.smsW body (Sy.optW e0 (Sy.openP [⟨#[119,104,105,108,101]⟩] x))):=by
  unfold Sy.smW
  rfl
 rw [hM] at hb
 have HM:=zz hM
 have HBC:=zz hb
 have hb2:=Nat.le_trans (Sy.close_mono (Sy.smsW body (Sy.optW e0 (Sy.openP [⟨#[119,104,105,108,101]⟩] x)))) hb
 have hb1:=Nat.le_trans (Sy.sms_mono body (Sy.optW e0 (Sy.openP [⟨#[119,104,105,108,101]⟩] x))) hb2
 have hb0:=Nat.le_trans (Sy.opt_mono e0 (Sy.openP [⟨#[119,104,105,108,101]⟩] x)) hb1
 have HB0:=zz hb0
 have HB1:=zz hb1
 have HB2:=zz hb2
 have HWE:=zz hW
 have HAG:=zz hA
 have HGB:=zz hg
 have HRW:=zz hr
 have HEX:=zz hE
 have H0:=zz h0
 have H1:=zz h1
 have H2:=zz h2
 unfold Sy.okN at ho hon
 rw [decide_eq_true_eq] at ho hon
 have hr:=hA.row hr hg
 have c0:w.cell? ⟨g,0,none⟩=some (.int .i64 5):=by rw [cell_of_row w g 0 _ _ _ hr]; rfl
 clear hM hb hb0 hb1 hb2 hW hA hg hE h0 h1 h2 ho hon hl hr
 go_enter Tryz.func60,Tryz.ntmps60
 go_wp2_with fail
 refine (head_as 5 (by decide) 5 rfl w).mono ?_
 rintro e' v0 ⟨rfl,hk⟩
 have HKv0:=zz hk
 clear hk c0
 change Hid (Keeps No w v0) at HKv0
 have hk3:Keeps No v0 (v0.alloc (.cells #[.string ⟨#[119,104,105,108,101]⟩] 9)):=(Keeps.refl _ _).alloc _
 have hp3:(v0.alloc (.cells #[.string ⟨#[119,104,105,108,101]⟩] 9)).heap[v0.heap.size]?=some (.cells #[.string ⟨#[119,104,105,108,101]⟩] 9 (0,0)):=heap_alloc_new _ _
 have hne3:v0.heap.size ≠ W:=by have:=HWE.out.bw.lt; have:=HKv0.out.size; omega
 have HKv3:Hid (Keeps No w (v0.alloc (.cells #[.string ⟨#[119,104,105,108,101]⟩] 9))):=zz (HKv0.out.trans hk3 (fun _ _ e=>e))
 have HPT:Hid (Pts (v0.alloc (.cells #[.string ⟨#[119,104,105,108,101]⟩] 9)) W (.slice (some ⟨v0.heap.size,0,none⟩) 1 1) [⟨#[119,104,105,108,101]⟩]):=zz ⟨by simp,.inr ⟨v0.heap.size,rfl,hp3,hne3⟩⟩
 clear hk3 hp3 hne3
 go_wp2_with fail
 refine (open_any W B x [⟨#[119,104,105,108,101]⟩] _ _ (HWE.out.no HKv3.out) HPT.out HB0.out).mono ?_
 rintro e' w1 ⟨rfl,hx⟩
 have HX0:Hid (WX w w1 W B (Sy.openP [⟨#[119,104,105,108,101]⟩] x)):=zz (WX.after HKv3.out hx)
 clear hx
 have HA0:=zz (HAG.out.wx HX0.out)
 have hr:=HA0.out.row HRW.out HGB.out
 have c0:w1.cell? ⟨g,0,none⟩=some (.int .i64 5):=by rw [cell_of_row w1 g 0 _ _ _ hr]; rfl
 have c9:w1.cell? ⟨g,9,none⟩=some (.pointer p0):=by rw [cell_of_row w1 g 9 _ _ _ hr]; rfl
 clear hr
 go_wp2_with fail
 refine (H0.out w1 (Sy.openP [⟨#[119,104,105,108,101]⟩] x) HA0.out HX0.out.p HB1.out).mono ?_
 rintro e' w2 ⟨rfl,hx⟩
 have HX1:=zz (HX0.out.trans hx)
 have HA1:=zz (HA0.out.wx hx)
 have hr:=HA1.out.row HRW.out HGB.out
 clear hx c0 c9
 have c12:w2.cell? ⟨g,12,none⟩=some (.slice sa n sc):=by rw [cell_of_row w2 g 12 _ _ _ hr]; rfl
 clear hr
 go_wp2_with fail
 refine (HEX.out w2 (Sy.optW e0 (Sy.openP [⟨#[119,104,105,108,101]⟩] x)) HA1.out HX1.out.p HB2.out).mono ?_
 rintro e' w3 ⟨rfl,hx⟩
 have HX2:=zz (HX1.out.trans hx)
 have HA2:=zz (HA1.out.wx hx)
 have hr:=HA2.out.row HRW.out HGB.out
 clear hx c12
 clear hr
 go_wp2_with fail
 refine (close_any W B (Sy.smsW body (Sy.optW e0 (Sy.openP [⟨#[119,104,105,108,101]⟩] x))) w3 HX2.out.p HBC.out).mono ?_
 rintro e' z9 ⟨rfl,hx⟩
 have HX9:=zz (HX2.out.trans hx)
 clear hx
 go_wp2_with fail
 go_returns
 exact ⟨rfl,by rw [HM.out]; exact HX9.out⟩
theorem sm_k6 (W B:Nat) (x:Sy.Wr) (w0 w:World) (g:Nat) (vn base name:ByteArray) (stars vnum num:Int) (va minus:Bool) (p0 p1 p2:Option Addr) (e0 e1 e2:Option Sy.Ex) (sa:Option Addr) (n sc:Nat) (body:List Sy.Sm) (hW:WE w W B x) (hA:Agr B w0 w) (hg:g < B)
    (hr:w0.heap[g]?=some (.cells (smRow 6 ⟨vn,⟨base,stars⟩,va,vnum⟩ name minus num p0 p1 p2 (.slice sa n sc)) 132 (0,0)))
    (h0:Told 99 W B w0 p0 (Sy.optW e0)) (h1:Told 99 W B w0 p1 (Sy.optW e1)) (h2:Told 99 W B w0 p2 (Sy.optW e2)) (hl:n=body.length)
    (hE:∀ (w2:World) (y:Sy.Wr),Agr B w0 w2→WE w2 W B y→(Sy.smsW body y).out.size≤BIG→Calls Tryz.prog 98 #[.pointer (some ⟨W,0,none⟩),.slice sa n sc] w2 (WrPost w2 W B (Sy.smsW body y)))
    (ho:Sy.okN stars vnum=true) (hon:Sy.okN 0 num=true) (hb:(Sy.smW (.mk 6 ⟨vn,⟨base,stars⟩,va,vnum⟩ name minus num e0 e1 e2 body) x).out.size≤BIG) :
    Calls Tryz.prog 60 #[.pointer (some ⟨W,0,none⟩),.pointer (some ⟨g,0,none⟩)] w (WrPost w W B (Sy.smW (.mk 6 ⟨vn,⟨base,stars⟩,va,vnum⟩ name minus num e0 e1 e2 body) x)):=by
 have hM:Sy.smW (.mk 6 ⟨vn,⟨base,stars⟩,va,vnum⟩ name minus num e0 e1 e2 body) x=Sy.closeW (Sy.optW e0 (Sy.smsW body (Sy.openP [⟨#[100,111]⟩] x))):=by
  unfold Sy.smW
  rfl
 rw [hM] at hb
 have HM:=zz hM
 have HBC:=zz hb
 have hb2:=Nat.le_trans (Sy.close_mono (Sy.optW e0 (Sy.smsW body (Sy.openP [⟨#[100,111]⟩] x)))) hb
 have hb1:=Nat.le_trans (Sy.opt_mono e0 (Sy.smsW body (Sy.openP [⟨#[100,111]⟩] x))) hb2
 have hb0:=Nat.le_trans (Sy.sms_mono body (Sy.openP [⟨#[100,111]⟩] x)) hb1
 have HB0:=zz hb0
 have HB1:=zz hb1
 have HB2:=zz hb2
 have HWE:=zz hW
 have HAG:=zz hA
 have HGB:=zz hg
 have HRW:=zz hr
 have HEX:=zz hE
 have H0:=zz h0
 have H1:=zz h1
 have H2:=zz h2
 unfold Sy.okN at ho hon
 rw [decide_eq_true_eq] at ho hon
 have hr:=hA.row hr hg
 have c0:w.cell? ⟨g,0,none⟩=some (.int .i64 6):=by rw [cell_of_row w g 0 _ _ _ hr]; rfl
 clear hM hb hb0 hb1 hb2 hW hA hg hE h0 h1 h2 ho hon hl hr
 go_enter Tryz.func60,Tryz.ntmps60
 go_wp2_with fail
 refine (head_as 6 (by decide) 6 rfl w).mono ?_
 rintro e' v0 ⟨rfl,hk⟩
 have HKv0:=zz hk
 clear hk c0
 change Hid (Keeps No w v0) at HKv0
 have hk3:Keeps No v0 (v0.alloc (.cells #[.string ⟨#[100,111]⟩] 9)):=(Keeps.refl _ _).alloc _
 have hp3:(v0.alloc (.cells #[.string ⟨#[100,111]⟩] 9)).heap[v0.heap.size]?=some (.cells #[.string ⟨#[100,111]⟩] 9 (0,0)):=heap_alloc_new _ _
 have hne3:v0.heap.size ≠ W:=by have:=HWE.out.bw.lt; have:=HKv0.out.size; omega
 have HKv3:Hid (Keeps No w (v0.alloc (.cells #[.string ⟨#[100,111]⟩] 9))):=zz (HKv0.out.trans hk3 (fun _ _ e=>e))
 have HPT:Hid (Pts (v0.alloc (.cells #[.string ⟨#[100,111]⟩] 9)) W (.slice (some ⟨v0.heap.size,0,none⟩) 1 1) [⟨#[100,111]⟩]):=zz ⟨by simp,.inr ⟨v0.heap.size,rfl,hp3,hne3⟩⟩
 clear hk3 hp3 hne3
 go_wp2_with fail
 refine (open_any W B x [⟨#[100,111]⟩] _ _ (HWE.out.no HKv3.out) HPT.out HB0.out).mono ?_
 rintro e' w1 ⟨rfl,hx⟩
 have HX0:Hid (WX w w1 W B (Sy.openP [⟨#[100,111]⟩] x)):=zz (WX.after HKv3.out hx)
 clear hx
 have HA0:=zz (HAG.out.wx HX0.out)
 have hr:=HA0.out.row HRW.out HGB.out
 have c0:w1.cell? ⟨g,0,none⟩=some (.int .i64 6):=by rw [cell_of_row w1 g 0 _ _ _ hr]; rfl
 have c12:w1.cell? ⟨g,12,none⟩=some (.slice sa n sc):=by rw [cell_of_row w1 g 12 _ _ _ hr]; rfl
 clear hr
 go_wp2_with fail
 refine (HEX.out w1 (Sy.openP [⟨#[100,111]⟩] x) HA0.out HX0.out.p HB1.out).mono ?_
 rintro e' w2 ⟨rfl,hx⟩
 have HX1:=zz (HX0.out.trans hx)
 have HA1:=zz (HA0.out.wx hx)
 have hr:=HA1.out.row HRW.out HGB.out
 clear hx c0 c12
 have c9:w2.cell? ⟨g,9,none⟩=some (.pointer p0):=by rw [cell_of_row w2 g 9 _ _ _ hr]; rfl
 clear hr
 go_wp2_with fail
 refine (H0.out w2 (Sy.smsW body (Sy.openP [⟨#[100,111]⟩] x)) HA1.out HX1.out.p HB2.out).mono ?_
 rintro e' w3 ⟨rfl,hx⟩
 have HX2:=zz (HX1.out.trans hx)
 have HA2:=zz (HA1.out.wx hx)
 have hr:=HA2.out.row HRW.out HGB.out
 clear hx c9
 clear hr
 go_wp2_with fail
 refine (close_any W B (Sy.optW e0 (Sy.smsW body (Sy.openP [⟨#[100,111]⟩] x))) w3 HX2.out.p HBC.out).mono ?_
 rintro e' z9 ⟨rfl,hx⟩
 have HX9:=zz (HX2.out.trans hx)
 clear hx
 go_wp2_with fail
 go_returns
 exact ⟨rfl,by rw [HM.out]; exact HX9.out⟩
theorem sm_k8 (W B:Nat) (x:Sy.Wr) (w0 w:World) (g:Nat) (vn base name:ByteArray) (stars vnum num:Int) (va minus:Bool) (p0 p1 p2:Option Addr) (e0 e1 e2:Option Sy.Ex) (sa:Option Addr) (n sc:Nat) (body:List Sy.Sm) (hW:WE w W B x) (hA:Agr B w0 w) (hg:g < B)
    (hr:w0.heap[g]?=some (.cells (smRow 8 ⟨vn,⟨base,stars⟩,va,vnum⟩ name minus num p0 p1 p2 (.slice sa n sc)) 132 (0,0)))
    (h0:Told 99 W B w0 p0 (Sy.optW e0)) (h1:Told 99 W B w0 p1 (Sy.optW e1)) (h2:Told 99 W B w0 p2 (Sy.optW e2)) (hl:n=body.length)
    (hE:∀ (w2:World) (y:Sy.Wr),Agr B w0 w2→WE w2 W B y→(Sy.smsW body y).out.size≤BIG→Calls Tryz.prog 98 #[.pointer (some ⟨W,0,none⟩),.slice sa n sc] w2 (WrPost w2 W B (Sy.smsW body y)))
    (ho:Sy.okN stars vnum=true) (hon:Sy.okN 0 num=true) (hb:(Sy.smW (.mk 8 ⟨vn,⟨base,stars⟩,va,vnum⟩ name minus num e0 e1 e2 body) x).out.size≤BIG) :
    Calls Tryz.prog 60 #[.pointer (some ⟨W,0,none⟩),.pointer (some ⟨g,0,none⟩)] w (WrPost w W B (Sy.smW (.mk 8 ⟨vn,⟨base,stars⟩,va,vnum⟩ name minus num e0 e1 e2 body) x)):=by
 have hM:Sy.smW (.mk 8 ⟨vn,⟨base,stars⟩,va,vnum⟩ name minus num e0 e1 e2 body) x=Sy.closeW (Sy.smsW body (Sy.optW e0 (Sy.openP [⟨#[115,119,105,116,99,104]⟩] x))):=by
  unfold Sy.smW
  rfl
 rw [hM] at hb
 have HM:=zz hM
 have HBC:=zz hb
 have hb2:=Nat.le_trans (Sy.close_mono (Sy.smsW body (Sy.optW e0 (Sy.openP [⟨#[115,119,105,116,99,104]⟩] x)))) hb
 have hb1:=Nat.le_trans (Sy.sms_mono body (Sy.optW e0 (Sy.openP [⟨#[115,119,105,116,99,104]⟩] x))) hb2
 have hb0:=Nat.le_trans (Sy.opt_mono e0 (Sy.openP [⟨#[115,119,105,116,99,104]⟩] x)) hb1
 have HB0:=zz hb0
 have HB1:=zz hb1
 have HB2:=zz hb2
 have HWE:=zz hW
 have HAG:=zz hA
 have HGB:=zz hg
 have HRW:=zz hr
 have HEX:=zz hE
 have H0:=zz h0
 have H1:=zz h1
 have H2:=zz h2
 unfold Sy.okN at ho hon
 rw [decide_eq_true_eq] at ho hon
 have hr:=hA.row hr hg
 have c0:w.cell? ⟨g,0,none⟩=some (.int .i64 8):=by rw [cell_of_row w g 0 _ _ _ hr]; rfl
 clear hM hb hb0 hb1 hb2 hW hA hg hE h0 h1 h2 ho hon hl hr
 go_enter Tryz.func60,Tryz.ntmps60
 go_wp2_with fail
 refine (head_as 8 (by decide) 8 rfl w).mono ?_
 rintro e' v0 ⟨rfl,hk⟩
 have HKv0:=zz hk
 clear hk c0
 change Hid (Keeps No w v0) at HKv0
 have hk3:Keeps No v0 (v0.alloc (.cells #[.string ⟨#[115,119,105,116,99,104]⟩] 9)):=(Keeps.refl _ _).alloc _
 have hp3:(v0.alloc (.cells #[.string ⟨#[115,119,105,116,99,104]⟩] 9)).heap[v0.heap.size]?=some (.cells #[.string ⟨#[115,119,105,116,99,104]⟩] 9 (0,0)):=heap_alloc_new _ _
 have hne3:v0.heap.size ≠ W:=by have:=HWE.out.bw.lt; have:=HKv0.out.size; omega
 have HKv3:Hid (Keeps No w (v0.alloc (.cells #[.string ⟨#[115,119,105,116,99,104]⟩] 9))):=zz (HKv0.out.trans hk3 (fun _ _ e=>e))
 have HPT:Hid (Pts (v0.alloc (.cells #[.string ⟨#[115,119,105,116,99,104]⟩] 9)) W (.slice (some ⟨v0.heap.size,0,none⟩) 1 1) [⟨#[115,119,105,116,99,104]⟩]):=zz ⟨by simp,.inr ⟨v0.heap.size,rfl,hp3,hne3⟩⟩
 clear hk3 hp3 hne3
 go_wp2_with fail
 refine (open_any W B x [⟨#[115,119,105,116,99,104]⟩] _ _ (HWE.out.no HKv3.out) HPT.out HB0.out).mono ?_
 rintro e' w1 ⟨rfl,hx⟩
 have HX0:Hid (WX w w1 W B (Sy.openP [⟨#[115,119,105,116,99,104]⟩] x)):=zz (WX.after HKv3.out hx)
 clear hx
 have HA0:=zz (HAG.out.wx HX0.out)
 have hr:=HA0.out.row HRW.out HGB.out
 have c0:w1.cell? ⟨g,0,none⟩=some (.int .i64 8):=by rw [cell_of_row w1 g 0 _ _ _ hr]; rfl
 have c9:w1.cell? ⟨g,9,none⟩=some (.pointer p0):=by rw [cell_of_row w1 g 9 _ _ _ hr]; rfl
 clear hr
 go_wp2_with fail
 refine (H0.out w1 (Sy.openP [⟨#[115,119,105,116,99,104]⟩] x) HA0.out HX0.out.p HB1.out).mono ?_
 rintro e' w2 ⟨rfl,hx⟩
 have HX1:=zz (HX0.out.trans hx)
 have HA1:=zz (HA0.out.wx hx)
 have hr:=HA1.out.row HRW.out HGB.out
 clear hx c0 c9
 have c12:w2.cell? ⟨g,12,none⟩=some (.slice sa n sc):=by rw [cell_of_row w2 g 12 _ _ _ hr]; rfl
 clear hr
 go_wp2_with fail
 refine (HEX.out w2 (Sy.optW e0 (Sy.openP [⟨#[115,119,105,116,99,104]⟩] x)) HA1.out HX1.out.p HB2.out).mono ?_
 rintro e' w3 ⟨rfl,hx⟩
 have HX2:=zz (HX1.out.trans hx)
 have HA2:=zz (HA1.out.wx hx)
 have hr:=HA2.out.row HRW.out HGB.out
 clear hx c12
 clear hr
 go_wp2_with fail
 refine (close_any W B (Sy.smsW body (Sy.optW e0 (Sy.openP [⟨#[115,119,105,116,99,104]⟩] x))) w3 HX2.out.p HBC.out).mono ?_
 rintro e' z9 ⟨rfl,hx⟩
 have HX9:=zz (HX2.out.trans hx)
 clear hx
 go_wp2_with fail
 go_returns
 exact ⟨rfl,by rw [HM.out]; exact HX9.out⟩
theorem sm_k9a (W B:Nat) (x:Sy.Wr) (w0 w:World) (g:Nat) (vn base name:ByteArray) (stars vnum num:Int) (va minus:Bool) (p0 p1 p2:Option Addr) (e0 e1 e2:Option Sy.Ex) (sa:Option Addr) (n sc:Nat) (body:List Sy.Sm) (hW:WE w W B x) (hA:Agr B w0 w) (hg:g < B)
    (hr:w0.heap[g]?=some (.cells (smRow 9 ⟨vn,⟨base,stars⟩,va,vnum⟩ name false num p0 p1 p2 (.slice sa n sc)) 132 (0,0)))
    (h0:Told 99 W B w0 p0 (Sy.optW e0)) (h1:Told 99 W B w0 p1 (Sy.optW e1)) (h2:Told 99 W B w0 p2 (Sy.optW e2)) (hl:n=body.length)
    (hE:∀ (w2:World) (y:Sy.Wr),Agr B w0 w2→WE w2 W B y→(Sy.smsW body y).out.size≤BIG→Calls Tryz.prog 98 #[.pointer (some ⟨W,0,none⟩),.slice sa n sc] w2 (WrPost w2 W B (Sy.smsW body y)))
    (ho:Sy.okN stars vnum=true) (hon:Sy.okN 0 num=true) (hb:(Sy.smW (.mk 9 ⟨vn,⟨base,stars⟩,va,vnum⟩ name false num e0 e1 e2 body) x).out.size≤BIG) :
    Calls Tryz.prog 60 #[.pointer (some ⟨W,0,none⟩),.pointer (some ⟨g,0,none⟩)] w (WrPost w W B (Sy.smW (.mk 9 ⟨vn,⟨base,stars⟩,va,vnum⟩ name false num e0 e1 e2 body) x)):=by
 obtain ⟨dn,hdn⟩:∃ t,Sy.decM num=t:=⟨_,rfl⟩
 have hM:Sy.smW (.mk 9 ⟨vn,⟨base,stars⟩,va,vnum⟩ name false num e0 e1 e2 body) x=Sy.closeW (Sy.partW dn (Sy.openP [⟨#[99,97,115,101]⟩] x)):=by
  unfold Sy.smW
  rw [← hdn]; rfl
 rw [hM] at hb
 have HM:=zz hM
 have HBC:=zz hb
 have hb1:=Nat.le_trans (Sy.close_mono (Sy.partW dn (Sy.openP [⟨#[99,97,115,101]⟩] x))) hb
 have hb0:=Nat.le_trans (Sy.part_mono dn (Sy.openP [⟨#[99,97,115,101]⟩] x)) hb1
 have HB0:=zz hb0
 have HB1:=zz hb1
 have HWE:=zz hW
 have HAG:=zz hA
 have HGB:=zz hg
 have HRW:=zz hr
 have HEX:=zz hE
 have H0:=zz h0
 have H1:=zz h1
 have H2:=zz h2
 unfold Sy.okN at ho hon
 rw [decide_eq_true_eq] at ho hon
 have HDC:=zz (fun W hl=>decimal_any num dn hon.2.2.1 hon.2.2.2 hdn W hl)
 have hr:=hA.row hr hg
 have c0:w.cell? ⟨g,0,none⟩=some (.int .i64 9):=by rw [cell_of_row w g 0 _ _ _ hr]; rfl
 clear hM hb hb0 hb1 hW hA hg hE h0 h1 h2 ho hon hl hr hdn
 go_enter Tryz.func60,Tryz.ntmps60
 go_wp2_with fail
 refine (head_as 9 (by decide) 9 rfl w).mono ?_
 rintro e' v0 ⟨rfl,hk⟩
 have HKv0:=zz hk
 clear hk c0
 change Hid (Keeps No w v0) at HKv0
 have hk3:Keeps No v0 (v0.alloc (.cells #[.string ⟨#[99,97,115,101]⟩] 9)):=(Keeps.refl _ _).alloc _
 have hp3:(v0.alloc (.cells #[.string ⟨#[99,97,115,101]⟩] 9)).heap[v0.heap.size]?=some (.cells #[.string ⟨#[99,97,115,101]⟩] 9 (0,0)):=heap_alloc_new _ _
 have hne3:v0.heap.size ≠ W:=by have:=HWE.out.bw.lt; have:=HKv0.out.size; omega
 have HKv3:Hid (Keeps No w (v0.alloc (.cells #[.string ⟨#[99,97,115,101]⟩] 9))):=zz (HKv0.out.trans hk3 (fun _ _ e=>e))
 have HPT:Hid (Pts (v0.alloc (.cells #[.string ⟨#[99,97,115,101]⟩] 9)) W (.slice (some ⟨v0.heap.size,0,none⟩) 1 1) [⟨#[99,97,115,101]⟩]):=zz ⟨by simp,.inr ⟨v0.heap.size,rfl,hp3,hne3⟩⟩
 clear hk3 hp3 hne3
 go_wp2_with fail
 refine (open_any W B x [⟨#[99,97,115,101]⟩] _ _ (HWE.out.no HKv3.out) HPT.out HB0.out).mono ?_
 rintro e' w1 ⟨rfl,hx⟩
 have HX0:Hid (WX w w1 W B (Sy.openP [⟨#[99,97,115,101]⟩] x)):=zz (WX.after HKv3.out hx)
 clear hx
 have HA0:=zz (HAG.out.wx HX0.out)
 have hr:=HA0.out.row HRW.out HGB.out
 have c0:w1.cell? ⟨g,0,none⟩=some (.int .i64 9):=by rw [cell_of_row w1 g 0 _ _ _ hr]; rfl
 have c7:w1.cell? ⟨g,7,none⟩=some (.bool false):=by rw [cell_of_row w1 g 7 _ _ _ hr]; rfl
 have c8:w1.cell? ⟨g,8,none⟩=some (.int .u64 num):=by rw [cell_of_row w1 g 8 _ _ _ hr]; rfl
 clear hr
 go_wp2_with fail
 refine (HDC.out w1 HX0.out.p.lp).mono ?_
 rintro e' u0 ⟨rfl,hk⟩
 have HK0:=zz hk
 clear hk
 go_wp2_with fail
 refine (part_any W B (Sy.openP [⟨#[99,97,115,101]⟩] x) dn u0 (HX0.out.p.no HK0.out) HB1.out).mono ?_
 rintro e' w2 ⟨rfl,hx0⟩
 have hx:=WX.after HK0.out hx0
 clear hx0
 have HX1:=zz (HX0.out.trans hx)
 have HA1:=zz (HA0.out.wx hx)
 have hr:=HA1.out.row HRW.out HGB.out
 clear hx c0 c7 c8
 clear hr
 go_wp2_with fail
 refine (close_any W B (Sy.partW dn (Sy.openP [⟨#[99,97,115,101]⟩] x)) w2 HX1.out.p HBC.out).mono ?_
 rintro e' z9 ⟨rfl,hx⟩
 have HX9:=zz (HX1.out.trans hx)
 clear hx
 go_wp2_with fail
 go_returns
 exact ⟨rfl,by rw [HM.out]; exact HX9.out⟩
theorem sm_k9b (W B:Nat) (x:Sy.Wr) (w0 w:World) (g:Nat) (vn base name:ByteArray) (stars vnum num:Int) (va minus:Bool) (p0 p1 p2:Option Addr) (e0 e1 e2:Option Sy.Ex) (sa:Option Addr) (n sc:Nat) (body:List Sy.Sm) (hW:WE w W B x) (hA:Agr B w0 w) (hg:g < B)
    (hr:w0.heap[g]?=some (.cells (smRow 9 ⟨vn,⟨base,stars⟩,va,vnum⟩ name true num p0 p1 p2 (.slice sa n sc)) 132 (0,0)))
    (h0:Told 99 W B w0 p0 (Sy.optW e0)) (h1:Told 99 W B w0 p1 (Sy.optW e1)) (h2:Told 99 W B w0 p2 (Sy.optW e2)) (hl:n=body.length)
    (hE:∀ (w2:World) (y:Sy.Wr),Agr B w0 w2→WE w2 W B y→(Sy.smsW body y).out.size≤BIG→Calls Tryz.prog 98 #[.pointer (some ⟨W,0,none⟩),.slice sa n sc] w2 (WrPost w2 W B (Sy.smsW body y)))
    (ho:Sy.okN stars vnum=true) (hon:Sy.okN 0 num=true) (hq:num=0) (hb:(Sy.smW (.mk 9 ⟨vn,⟨base,stars⟩,va,vnum⟩ name true num e0 e1 e2 body) x).out.size≤BIG) :
    Calls Tryz.prog 60 #[.pointer (some ⟨W,0,none⟩),.pointer (some ⟨g,0,none⟩)] w (WrPost w W B (Sy.smW (.mk 9 ⟨vn,⟨base,stars⟩,va,vnum⟩ name true num e0 e1 e2 body) x)):=by
 obtain ⟨dn,hdn⟩:∃ t,Sy.decM num=t:=⟨_,rfl⟩
 have q9:(num != 0)=false:=by rw [hq]; rfl
 have hM:Sy.smW (.mk 9 ⟨vn,⟨base,stars⟩,va,vnum⟩ name true num e0 e1 e2 body) x=Sy.closeW (Sy.partW dn (Sy.openP [⟨#[99,97,115,101]⟩] x)):=by
  unfold Sy.smW
  show Sy.closeW (if true=true∧num ≠ 0 then _ else _)=_
  rw [if_neg (fun e=>e.2 hq),← hdn]; rfl
 rw [hM] at hb
 have HM:=zz hM
 have HBC:=zz hb
 have hb1:=Nat.le_trans (Sy.close_mono (Sy.partW dn (Sy.openP [⟨#[99,97,115,101]⟩] x))) hb
 have hb0:=Nat.le_trans (Sy.part_mono dn (Sy.openP [⟨#[99,97,115,101]⟩] x)) hb1
 have HB0:=zz hb0
 have HB1:=zz hb1
 have HWE:=zz hW
 have HAG:=zz hA
 have HGB:=zz hg
 have HRW:=zz hr
 have HEX:=zz hE
 have H0:=zz h0
 have H1:=zz h1
 have H2:=zz h2
 unfold Sy.okN at ho hon
 rw [decide_eq_true_eq] at ho hon
 have HDC:=zz (fun W hl=>decimal_any num dn hon.2.2.1 hon.2.2.2 hdn W hl)
 have hr:=hA.row hr hg
 have c0:w.cell? ⟨g,0,none⟩=some (.int .i64 9):=by rw [cell_of_row w g 0 _ _ _ hr]; rfl
 clear hM hb hb0 hb1 hW hA hg hE h0 h1 h2 ho hon hl hr hq hdn
 go_enter Tryz.func60,Tryz.ntmps60
 go_wp2_with fail
 refine (head_as 9 (by decide) 9 rfl w).mono ?_
 rintro e' v0 ⟨rfl,hk⟩
 have HKv0:=zz hk
 clear hk c0
 change Hid (Keeps No w v0) at HKv0
 have hk3:Keeps No v0 (v0.alloc (.cells #[.string ⟨#[99,97,115,101]⟩] 9)):=(Keeps.refl _ _).alloc _
 have hp3:(v0.alloc (.cells #[.string ⟨#[99,97,115,101]⟩] 9)).heap[v0.heap.size]?=some (.cells #[.string ⟨#[99,97,115,101]⟩] 9 (0,0)):=heap_alloc_new _ _
 have hne3:v0.heap.size ≠ W:=by have:=HWE.out.bw.lt; have:=HKv0.out.size; omega
 have HKv3:Hid (Keeps No w (v0.alloc (.cells #[.string ⟨#[99,97,115,101]⟩] 9))):=zz (HKv0.out.trans hk3 (fun _ _ e=>e))
 have HPT:Hid (Pts (v0.alloc (.cells #[.string ⟨#[99,97,115,101]⟩] 9)) W (.slice (some ⟨v0.heap.size,0,none⟩) 1 1) [⟨#[99,97,115,101]⟩]):=zz ⟨by simp,.inr ⟨v0.heap.size,rfl,hp3,hne3⟩⟩
 clear hk3 hp3 hne3
 go_wp2_with fail
 refine (open_any W B x [⟨#[99,97,115,101]⟩] _ _ (HWE.out.no HKv3.out) HPT.out HB0.out).mono ?_
 rintro e' w1 ⟨rfl,hx⟩
 have HX0:Hid (WX w w1 W B (Sy.openP [⟨#[99,97,115,101]⟩] x)):=zz (WX.after HKv3.out hx)
 clear hx
 have HA0:=zz (HAG.out.wx HX0.out)
 have hr:=HA0.out.row HRW.out HGB.out
 have c0:w1.cell? ⟨g,0,none⟩=some (.int .i64 9):=by rw [cell_of_row w1 g 0 _ _ _ hr]; rfl
 have c7:w1.cell? ⟨g,7,none⟩=some (.bool true):=by rw [cell_of_row w1 g 7 _ _ _ hr]; rfl
 have c8:w1.cell? ⟨g,8,none⟩=some (.int .u64 num):=by rw [cell_of_row w1 g 8 _ _ _ hr]; rfl
 clear hr
 go_wp2_with fail
 refine (HDC.out w1 HX0.out.p.lp).mono ?_
 rintro e' u0 ⟨rfl,hk⟩
 have HK0:=zz hk
 clear hk
 go_wp2_with fail
 refine (part_any W B (Sy.openP [⟨#[99,97,115,101]⟩] x) dn u0 (HX0.out.p.no HK0.out) HB1.out).mono ?_
 rintro e' w2 ⟨rfl,hx0⟩
 have hx:=WX.after HK0.out hx0
 clear hx0
 have HX1:=zz (HX0.out.trans hx)
 have HA1:=zz (HA0.out.wx hx)
 have hr:=HA1.out.row HRW.out HGB.out
 clear hx c0 c7 c8
 clear hr
 go_wp2_with fail
 refine (close_any W B (Sy.partW dn (Sy.openP [⟨#[99,97,115,101]⟩] x)) w2 HX1.out.p HBC.out).mono ?_
 rintro e' z9 ⟨rfl,hx⟩
 have HX9:=zz (HX1.out.trans hx)
 clear hx
 go_wp2_with fail
 go_returns
 exact ⟨rfl,by rw [HM.out]; exact HX9.out⟩
theorem sm_k9c (W B:Nat) (x:Sy.Wr) (w0 w:World) (g:Nat) (vn base name:ByteArray) (stars vnum num:Int) (va minus:Bool) (p0 p1 p2:Option Addr) (e0 e1 e2:Option Sy.Ex) (sa:Option Addr) (n sc:Nat) (body:List Sy.Sm) (hW:WE w W B x) (hA:Agr B w0 w) (hg:g < B)
    (hr:w0.heap[g]?=some (.cells (smRow 9 ⟨vn,⟨base,stars⟩,va,vnum⟩ name true num p0 p1 p2 (.slice sa n sc)) 132 (0,0)))
    (h0:Told 99 W B w0 p0 (Sy.optW e0)) (h1:Told 99 W B w0 p1 (Sy.optW e1)) (h2:Told 99 W B w0 p2 (Sy.optW e2)) (hl:n=body.length)
    (hE:∀ (w2:World) (y:Sy.Wr),Agr B w0 w2→WE w2 W B y→(Sy.smsW body y).out.size≤BIG→Calls Tryz.prog 98 #[.pointer (some ⟨W,0,none⟩),.slice sa n sc] w2 (WrPost w2 W B (Sy.smsW body y)))
    (ho:Sy.okN stars vnum=true) (hon:Sy.okN 0 num=true) (hq:¬ num=0) (hb:(Sy.smW (.mk 9 ⟨vn,⟨base,stars⟩,va,vnum⟩ name true num e0 e1 e2 body) x).out.size≤BIG) :
    Calls Tryz.prog 60 #[.pointer (some ⟨W,0,none⟩),.pointer (some ⟨g,0,none⟩)] w (WrPost w W B (Sy.smW (.mk 9 ⟨vn,⟨base,stars⟩,va,vnum⟩ name true num e0 e1 e2 body) x)):=by
 obtain ⟨dn,hdn⟩:∃ t,Sy.decM num=t:=⟨_,rfl⟩
 have q9:(num != 0)=true:=bne_iff_ne.2 hq
 have hM:Sy.smW (.mk 9 ⟨vn,⟨base,stars⟩,va,vnum⟩ name true num e0 e1 e2 body) x=Sy.closeW (Sy.partW (Sy.dash++dn) (Sy.openP [⟨#[99,97,115,101]⟩] x)):=by
  unfold Sy.smW
  show Sy.closeW (if true=true∧num ≠ 0 then _ else _)=_
  rw [if_pos ⟨rfl,hq⟩,← hdn]; rfl
 rw [hM] at hb
 have HM:=zz hM
 have HBC:=zz hb
 have hb1:=Nat.le_trans (Sy.close_mono (Sy.partW (Sy.dash++dn) (Sy.openP [⟨#[99,97,115,101]⟩] x))) hb
 have hb0:=Nat.le_trans (Sy.part_mono (Sy.dash++dn) (Sy.openP [⟨#[99,97,115,101]⟩] x)) hb1
 have HB0:=zz hb0
 have HB1:=zz hb1
 have HWE:=zz hW
 have HAG:=zz hA
 have HGB:=zz hg
 have HRW:=zz hr
 have HEX:=zz hE
 have H0:=zz h0
 have H1:=zz h1
 have H2:=zz h2
 unfold Sy.okN at ho hon
 rw [decide_eq_true_eq] at ho hon
 have HDC:=zz (fun W hl=>decimal_any num dn hon.2.2.1 hon.2.2.2 hdn W hl)
 have hdz:dn.size≤1000000:=by
  rw [← hdn]; unfold Sy.decM
  show (Sy.decL 20 num.toNat []).toArray.size≤_
  rw [List.size_toArray]; exact Nat.le_trans (dec_len 20 _ _) (by simp)
 have hr:=hA.row hr hg
 have c0:w.cell? ⟨g,0,none⟩=some (.int .i64 9):=by rw [cell_of_row w g 0 _ _ _ hr]; rfl
 clear hM hb hb0 hb1 hW hA hg hE h0 h1 h2 ho hon hl hr hq hdn
 go_enter Tryz.func60,Tryz.ntmps60
 go_wp2_with fail
 refine (head_as 9 (by decide) 9 rfl w).mono ?_
 rintro e' v0 ⟨rfl,hk⟩
 have HKv0:=zz hk
 clear hk c0
 change Hid (Keeps No w v0) at HKv0
 have hk3:Keeps No v0 (v0.alloc (.cells #[.string ⟨#[99,97,115,101]⟩] 9)):=(Keeps.refl _ _).alloc _
 have hp3:(v0.alloc (.cells #[.string ⟨#[99,97,115,101]⟩] 9)).heap[v0.heap.size]?=some (.cells #[.string ⟨#[99,97,115,101]⟩] 9 (0,0)):=heap_alloc_new _ _
 have hne3:v0.heap.size ≠ W:=by have:=HWE.out.bw.lt; have:=HKv0.out.size; omega
 have HKv3:Hid (Keeps No w (v0.alloc (.cells #[.string ⟨#[99,97,115,101]⟩] 9))):=zz (HKv0.out.trans hk3 (fun _ _ e=>e))
 have HPT:Hid (Pts (v0.alloc (.cells #[.string ⟨#[99,97,115,101]⟩] 9)) W (.slice (some ⟨v0.heap.size,0,none⟩) 1 1) [⟨#[99,97,115,101]⟩]):=zz ⟨by simp,.inr ⟨v0.heap.size,rfl,hp3,hne3⟩⟩
 clear hk3 hp3 hne3
 go_wp2_with fail
 refine (open_any W B x [⟨#[99,97,115,101]⟩] _ _ (HWE.out.no HKv3.out) HPT.out HB0.out).mono ?_
 rintro e' w1 ⟨rfl,hx⟩
 have HX0:Hid (WX w w1 W B (Sy.openP [⟨#[99,97,115,101]⟩] x)):=zz (WX.after HKv3.out hx)
 clear hx
 have HA0:=zz (HAG.out.wx HX0.out)
 have hr:=HA0.out.row HRW.out HGB.out
 have c0:w1.cell? ⟨g,0,none⟩=some (.int .i64 9):=by rw [cell_of_row w1 g 0 _ _ _ hr]; rfl
 have c7:w1.cell? ⟨g,7,none⟩=some (.bool true):=by rw [cell_of_row w1 g 7 _ _ _ hr]; rfl
 have c8:w1.cell? ⟨g,8,none⟩=some (.int .u64 num):=by rw [cell_of_row w1 g 8 _ _ _ hr]; rfl
 clear hr
 go_wp2_with fail
 refine (HDC.out w1 HX0.out.p.lp).mono ?_
 rintro e' u0 ⟨rfl,hk⟩
 have HK0:=zz hk
 clear hk
 go_wp2_with fail
 refine (part_any W B (Sy.openP [⟨#[99,97,115,101]⟩] x) (Sy.dash++dn) u0 (HX0.out.p.no HK0.out) HB1.out).mono ?_
 rintro e' w2 ⟨rfl,hx0⟩
 have hx:=WX.after HK0.out hx0
 clear hx0
 have HX1:=zz (HX0.out.trans hx)
 have HA1:=zz (HA0.out.wx hx)
 have hr:=HA1.out.row HRW.out HGB.out
 clear hx c0 c7 c8
 clear hr
 go_wp2_with fail
 refine (close_any W B (Sy.partW (Sy.dash++dn) (Sy.openP [⟨#[99,97,115,101]⟩] x)) w2 HX1.out.p HBC.out).mono ?_
 rintro e' z9 ⟨rfl,hx⟩
 have HX9:=zz (HX1.out.trans hx)
 clear hx
 go_wp2_with fail
 go_returns
 exact ⟨rfl,by rw [HM.out]; exact HX9.out⟩
theorem sm_k10 (W B:Nat) (x:Sy.Wr) (w0 w:World) (g:Nat) (vn base name:ByteArray) (stars vnum num:Int) (va minus:Bool) (p0 p1 p2:Option Addr) (e0 e1 e2:Option Sy.Ex) (sa:Option Addr) (n sc:Nat) (body:List Sy.Sm) (hW:WE w W B x) (hA:Agr B w0 w) (hg:g < B)
    (hr:w0.heap[g]?=some (.cells (smRow 10 ⟨vn,⟨base,stars⟩,va,vnum⟩ name minus num p0 p1 p2 (.slice sa n sc)) 132 (0,0)))
    (h0:Told 99 W B w0 p0 (Sy.optW e0)) (h1:Told 99 W B w0 p1 (Sy.optW e1)) (h2:Told 99 W B w0 p2 (Sy.optW e2)) (hl:n=body.length)
    (hE:∀ (w2:World) (y:Sy.Wr),Agr B w0 w2→WE w2 W B y→(Sy.smsW body y).out.size≤BIG→Calls Tryz.prog 98 #[.pointer (some ⟨W,0,none⟩),.slice sa n sc] w2 (WrPost w2 W B (Sy.smsW body y)))
    (ho:Sy.okN stars vnum=true) (hon:Sy.okN 0 num=true) (hb:(Sy.smW (.mk 10 ⟨vn,⟨base,stars⟩,va,vnum⟩ name minus num e0 e1 e2 body) x).out.size≤BIG) :
    Calls Tryz.prog 60 #[.pointer (some ⟨W,0,none⟩),.pointer (some ⟨g,0,none⟩)] w (WrPost w W B (Sy.smW (.mk 10 ⟨vn,⟨base,stars⟩,va,vnum⟩ name minus num e0 e1 e2 body) x)):=by
 have hM:Sy.smW (.mk 10 ⟨vn,⟨base,stars⟩,va,vnum⟩ name minus num e0 e1 e2 body) x=Sy.closeW (Sy.openP [⟨#[100,101,102,97,117,108,116]⟩] x):=by
  unfold Sy.smW
  rfl
 rw [hM] at hb
 have HM:=zz hM
 have HBC:=zz hb
 have hb0:=Nat.le_trans (Sy.close_mono (Sy.openP [⟨#[100,101,102,97,117,108,116]⟩] x)) hb
 have HB0:=zz hb0
 have HWE:=zz hW
 have HAG:=zz hA
 have HGB:=zz hg
 have HRW:=zz hr
 have HEX:=zz hE
 have H0:=zz h0
 have H1:=zz h1
 have H2:=zz h2
 unfold Sy.okN at ho hon
 rw [decide_eq_true_eq] at ho hon
 have hr:=hA.row hr hg
 have c0:w.cell? ⟨g,0,none⟩=some (.int .i64 10):=by rw [cell_of_row w g 0 _ _ _ hr]; rfl
 clear hM hb hb0 hW hA hg hE h0 h1 h2 ho hon hl hr
 go_enter Tryz.func60,Tryz.ntmps60
 go_wp2_with fail
 refine (head_as 10 (by decide) 10 rfl w).mono ?_
 rintro e' v0 ⟨rfl,hk⟩
 have HKv0:=zz hk
 clear hk c0
 change Hid (Keeps No w v0) at HKv0
 have hk3:Keeps No v0 (v0.alloc (.cells #[.string ⟨#[100,101,102,97,117,108,116]⟩] 9)):=(Keeps.refl _ _).alloc _
 have hp3:(v0.alloc (.cells #[.string ⟨#[100,101,102,97,117,108,116]⟩] 9)).heap[v0.heap.size]?=some (.cells #[.string ⟨#[100,101,102,97,117,108,116]⟩] 9 (0,0)):=heap_alloc_new _ _
 have hne3:v0.heap.size ≠ W:=by have:=HWE.out.bw.lt; have:=HKv0.out.size; omega
 have HKv3:Hid (Keeps No w (v0.alloc (.cells #[.string ⟨#[100,101,102,97,117,108,116]⟩] 9))):=zz (HKv0.out.trans hk3 (fun _ _ e=>e))
 have HPT:Hid (Pts (v0.alloc (.cells #[.string ⟨#[100,101,102,97,117,108,116]⟩] 9)) W (.slice (some ⟨v0.heap.size,0,none⟩) 1 1) [⟨#[100,101,102,97,117,108,116]⟩]):=zz ⟨by simp,.inr ⟨v0.heap.size,rfl,hp3,hne3⟩⟩
 clear hk3 hp3 hne3
 go_wp2_with fail
 refine (open_any W B x [⟨#[100,101,102,97,117,108,116]⟩] _ _ (HWE.out.no HKv3.out) HPT.out HB0.out).mono ?_
 rintro e' w1 ⟨rfl,hx⟩
 have HX0:Hid (WX w w1 W B (Sy.openP [⟨#[100,101,102,97,117,108,116]⟩] x)):=zz (WX.after HKv3.out hx)
 clear hx
 have HA0:=zz (HAG.out.wx HX0.out)
 have hr:=HA0.out.row HRW.out HGB.out
 have c0:w1.cell? ⟨g,0,none⟩=some (.int .i64 10):=by rw [cell_of_row w1 g 0 _ _ _ hr]; rfl
 clear hr
 go_wp2_with fail
 refine (close_any W B (Sy.openP [⟨#[100,101,102,97,117,108,116]⟩] x) w1 HX0.out.p HBC.out).mono ?_
 rintro e' z9 ⟨rfl,hx⟩
 have HX9:=zz (HX0.out.trans hx)
 clear hx
 go_wp2_with fail
 go_returns
 exact ⟨rfl,by rw [HM.out]; exact HX9.out⟩
end Go.Proofs.YtflbkdfbjofllaaGreatDoor
