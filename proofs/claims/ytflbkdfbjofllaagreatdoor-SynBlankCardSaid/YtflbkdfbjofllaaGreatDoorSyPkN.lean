import Derived.Test.YtflbkdfbjofllaaGreatDoorSyPkM
import Derived.Test.YtflbkdfbjofllaaGreatDoorSyPkI
set_option maxRecDepth 100000
set_option maxHeartbeats 25600000
set_option linter.unusedSimpArgs false
set_option linter.unusedVariables false
namespace Go.Proofs.YtflbkdfbjofllaaGreatDoor
open Go.RowKit Lx
theorem sm_k11 (W B:Nat) (x:Sy.Wr) (w0 w:World) (g:Nat) (vn base name:ByteArray) (stars vnum num:Int) (va minus:Bool) (p0 p1 p2:Option Addr) (e0 e1 e2:Option Sy.Ex) (sa:Option Addr) (n sc:Nat) (body:List Sy.Sm) (hW:WE w W B x) (hA:Agr B w0 w) (hg:g < B)
    (hr:w0.heap[g]?=some (.cells (smRow 11 ⟨vn,⟨base,stars⟩,va,vnum⟩ name minus num p0 p1 p2 (.slice sa n sc)) 132 (0,0)))
    (h0:Told 99 W B w0 p0 (Sy.optW e0)) (h1:Told 99 W B w0 p1 (Sy.optW e1)) (h2:Told 99 W B w0 p2 (Sy.optW e2)) (hl:n=body.length)
    (hE:∀ (w2:World) (y:Sy.Wr),Agr B w0 w2→WE w2 W B y→(Sy.smsW body y).out.size≤BIG→Calls Tryz.prog 98 #[.pointer (some ⟨W,0,none⟩),.slice sa n sc] w2 (WrPost w2 W B (Sy.smsW body y)))
    (ho:Sy.okN stars vnum=true) (hon:Sy.okN 0 num=true) (hb:(Sy.smW (.mk 11 ⟨vn,⟨base,stars⟩,va,vnum⟩ name minus num e0 e1 e2 body) x).out.size≤BIG) :
    Calls Tryz.prog 60 #[.pointer (some ⟨W,0,none⟩),.pointer (some ⟨g,0,none⟩)] w (WrPost w W B (Sy.smW (.mk 11 ⟨vn,⟨base,stars⟩,va,vnum⟩ name minus num e0 e1 e2 body) x)):=by
 have hM:Sy.smW (.mk 11 ⟨vn,⟨base,stars⟩,va,vnum⟩ name minus num e0 e1 e2 body) x=Sy.closeW (Sy.openP [⟨#[98,114,101,97,107]⟩] x):=by
  unfold Sy.smW
  rfl
 rw [hM] at hb
 have HM:=zz hM
 have HBC:=zz hb
 have hb0:=Nat.le_trans (Sy.close_mono (Sy.openP [⟨#[98,114,101,97,107]⟩] x)) hb
 have HB0:=zz hb0
 have HWE:=zz hW
 have HAG:=zz hA
 have HGB:=zz hg
 have HRW:=zz hr
 have HEX:=zz hE
 have H0:=zz h0
 have H1:=zz h1
 have H2:=zz h2
 unfold Sy.okN at ho hon
 rw [decide_eq_true_eq] at ho hon
 have hr:=hA.row hr hg
 have c0:w.cell? ⟨g,0,none⟩=some (.int .i64 11):=by rw [cell_of_row w g 0 _ _ _ hr]; rfl
 clear hM hb hb0 hW hA hg hE h0 h1 h2 ho hon hl hr
 go_enter Tryz.func60,Tryz.ntmps60
 go_wp2_with fail
 refine (head_as 11 (by decide) 11 rfl w).mono ?_
 rintro e' v0 ⟨rfl,hk⟩
 have HKv0:=zz hk
 clear hk c0
 change Hid (Keeps No w v0) at HKv0
 have hk3:Keeps No v0 (v0.alloc (.cells #[.string ⟨#[98,114,101,97,107]⟩] 9)):=(Keeps.refl _ _).alloc _
 have hp3:(v0.alloc (.cells #[.string ⟨#[98,114,101,97,107]⟩] 9)).heap[v0.heap.size]?=some (.cells #[.string ⟨#[98,114,101,97,107]⟩] 9 (0,0)):=heap_alloc_new _ _
 have hne3:v0.heap.size ≠ W:=by have:=HWE.out.bw.lt; have:=HKv0.out.size; omega
 have HKv3:Hid (Keeps No w (v0.alloc (.cells #[.string ⟨#[98,114,101,97,107]⟩] 9))):=zz (HKv0.out.trans hk3 (fun _ _ e=>e))
 have HPT:Hid (Pts (v0.alloc (.cells #[.string ⟨#[98,114,101,97,107]⟩] 9)) W (.slice (some ⟨v0.heap.size,0,none⟩) 1 1) [⟨#[98,114,101,97,107]⟩]):=zz ⟨by simp,.inr ⟨v0.heap.size,rfl,hp3,hne3⟩⟩
 clear hk3 hp3 hne3
 go_wp2_with fail
 refine (open_any W B x [⟨#[98,114,101,97,107]⟩] _ _ (HWE.out.no HKv3.out) HPT.out HB0.out).mono ?_
 rintro e' w1 ⟨rfl,hx⟩
 have HX0:Hid (WX w w1 W B (Sy.openP [⟨#[98,114,101,97,107]⟩] x)):=zz (WX.after HKv3.out hx)
 clear hx
 have HA0:=zz (HAG.out.wx HX0.out)
 have hr:=HA0.out.row HRW.out HGB.out
 have c0:w1.cell? ⟨g,0,none⟩=some (.int .i64 11):=by rw [cell_of_row w1 g 0 _ _ _ hr]; rfl
 clear hr
 go_wp2_with fail
 refine (close_any W B (Sy.openP [⟨#[98,114,101,97,107]⟩] x) w1 HX0.out.p HBC.out).mono ?_
 rintro e' z9 ⟨rfl,hx⟩
 have HX9:=zz (HX0.out.trans hx)
 clear hx
 go_wp2_with fail
 go_returns
 exact ⟨rfl,by rw [HM.out]; exact HX9.out⟩
theorem sm_k12 (W B:Nat) (x:Sy.Wr) (w0 w:World) (g:Nat) (vn base name:ByteArray) (stars vnum num:Int) (va minus:Bool) (p0 p1 p2:Option Addr) (e0 e1 e2:Option Sy.Ex) (sa:Option Addr) (n sc:Nat) (body:List Sy.Sm) (hW:WE w W B x) (hA:Agr B w0 w) (hg:g < B)
    (hr:w0.heap[g]?=some (.cells (smRow 12 ⟨vn,⟨base,stars⟩,va,vnum⟩ name minus num p0 p1 p2 (.slice sa n sc)) 132 (0,0)))
    (h0:Told 99 W B w0 p0 (Sy.optW e0)) (h1:Told 99 W B w0 p1 (Sy.optW e1)) (h2:Told 99 W B w0 p2 (Sy.optW e2)) (hl:n=body.length)
    (hE:∀ (w2:World) (y:Sy.Wr),Agr B w0 w2→WE w2 W B y→(Sy.smsW body y).out.size≤BIG→Calls Tryz.prog 98 #[.pointer (some ⟨W,0,none⟩),.slice sa n sc] w2 (WrPost w2 W B (Sy.smsW body y)))
    (ho:Sy.okN stars vnum=true) (hon:Sy.okN 0 num=true) (hb:(Sy.smW (.mk 12 ⟨vn,⟨base,stars⟩,va,vnum⟩ name minus num e0 e1 e2 body) x).out.size≤BIG) :
    Calls Tryz.prog 60 #[.pointer (some ⟨W,0,none⟩),.pointer (some ⟨g,0,none⟩)] w (WrPost w W B (Sy.smW (.mk 12 ⟨vn,⟨base,stars⟩,va,vnum⟩ name minus num e0 e1 e2 body) x)):=by
 have hM:Sy.smW (.mk 12 ⟨vn,⟨base,stars⟩,va,vnum⟩ name minus num e0 e1 e2 body) x=Sy.closeW (Sy.openP [⟨#[99,111,110,116,105,110,117,101]⟩] x):=by
  unfold Sy.smW
  rfl
 rw [hM] at hb
 have HM:=zz hM
 have HBC:=zz hb
 have hb0:=Nat.le_trans (Sy.close_mono (Sy.openP [⟨#[99,111,110,116,105,110,117,101]⟩] x)) hb
 have HB0:=zz hb0
 have HWE:=zz hW
 have HAG:=zz hA
 have HGB:=zz hg
 have HRW:=zz hr
 have HEX:=zz hE
 have H0:=zz h0
 have H1:=zz h1
 have H2:=zz h2
 unfold Sy.okN at ho hon
 rw [decide_eq_true_eq] at ho hon
 have hr:=hA.row hr hg
 have c0:w.cell? ⟨g,0,none⟩=some (.int .i64 12):=by rw [cell_of_row w g 0 _ _ _ hr]; rfl
 clear hM hb hb0 hW hA hg hE h0 h1 h2 ho hon hl hr
 go_enter Tryz.func60,Tryz.ntmps60
 go_wp2_with fail
 refine (head_as 12 (by decide) 12 rfl w).mono ?_
 rintro e' v0 ⟨rfl,hk⟩
 have HKv0:=zz hk
 clear hk c0
 change Hid (Keeps No w v0) at HKv0
 have hk3:Keeps No v0 (v0.alloc (.cells #[.string ⟨#[99,111,110,116,105,110,117,101]⟩] 9)):=(Keeps.refl _ _).alloc _
 have hp3:(v0.alloc (.cells #[.string ⟨#[99,111,110,116,105,110,117,101]⟩] 9)).heap[v0.heap.size]?=some (.cells #[.string ⟨#[99,111,110,116,105,110,117,101]⟩] 9 (0,0)):=heap_alloc_new _ _
 have hne3:v0.heap.size ≠ W:=by have:=HWE.out.bw.lt; have:=HKv0.out.size; omega
 have HKv3:Hid (Keeps No w (v0.alloc (.cells #[.string ⟨#[99,111,110,116,105,110,117,101]⟩] 9))):=zz (HKv0.out.trans hk3 (fun _ _ e=>e))
 have HPT:Hid (Pts (v0.alloc (.cells #[.string ⟨#[99,111,110,116,105,110,117,101]⟩] 9)) W (.slice (some ⟨v0.heap.size,0,none⟩) 1 1) [⟨#[99,111,110,116,105,110,117,101]⟩]):=zz ⟨by simp,.inr ⟨v0.heap.size,rfl,hp3,hne3⟩⟩
 clear hk3 hp3 hne3
 go_wp2_with fail
 refine (open_any W B x [⟨#[99,111,110,116,105,110,117,101]⟩] _ _ (HWE.out.no HKv3.out) HPT.out HB0.out).mono ?_
 rintro e' w1 ⟨rfl,hx⟩
 have HX0:Hid (WX w w1 W B (Sy.openP [⟨#[99,111,110,116,105,110,117,101]⟩] x)):=zz (WX.after HKv3.out hx)
 clear hx
 have HA0:=zz (HAG.out.wx HX0.out)
 have hr:=HA0.out.row HRW.out HGB.out
 have c0:w1.cell? ⟨g,0,none⟩=some (.int .i64 12):=by rw [cell_of_row w1 g 0 _ _ _ hr]; rfl
 clear hr
 go_wp2_with fail
 refine (close_any W B (Sy.openP [⟨#[99,111,110,116,105,110,117,101]⟩] x) w1 HX0.out.p HBC.out).mono ?_
 rintro e' z9 ⟨rfl,hx⟩
 have HX9:=zz (HX0.out.trans hx)
 clear hx
 go_wp2_with fail
 go_returns
 exact ⟨rfl,by rw [HM.out]; exact HX9.out⟩
theorem sm_k13 (W B:Nat) (x:Sy.Wr) (w0 w:World) (g:Nat) (vn base name:ByteArray) (stars vnum num:Int) (va minus:Bool) (p0 p1 p2:Option Addr) (e0 e1 e2:Option Sy.Ex) (sa:Option Addr) (n sc:Nat) (body:List Sy.Sm) (hW:WE w W B x) (hA:Agr B w0 w) (hg:g < B)
    (hr:w0.heap[g]?=some (.cells (smRow 13 ⟨vn,⟨base,stars⟩,va,vnum⟩ name minus num p0 p1 p2 (.slice sa n sc)) 132 (0,0)))
    (h0:Told 99 W B w0 p0 (Sy.optW e0)) (h1:Told 99 W B w0 p1 (Sy.optW e1)) (h2:Told 99 W B w0 p2 (Sy.optW e2)) (hl:n=body.length)
    (hE:∀ (w2:World) (y:Sy.Wr),Agr B w0 w2→WE w2 W B y→(Sy.smsW body y).out.size≤BIG→Calls Tryz.prog 98 #[.pointer (some ⟨W,0,none⟩),.slice sa n sc] w2 (WrPost w2 W B (Sy.smsW body y)))
    (ho:Sy.okN stars vnum=true) (hon:Sy.okN 0 num=true) (hb:(Sy.smW (.mk 13 ⟨vn,⟨base,stars⟩,va,vnum⟩ name minus num e0 e1 e2 body) x).out.size≤BIG) :
    Calls Tryz.prog 60 #[.pointer (some ⟨W,0,none⟩),.pointer (some ⟨g,0,none⟩)] w (WrPost w W B (Sy.smW (.mk 13 ⟨vn,⟨base,stars⟩,va,vnum⟩ name minus num e0 e1 e2 body) x)):=by
 have hM:Sy.smW (.mk 13 ⟨vn,⟨base,stars⟩,va,vnum⟩ name minus num e0 e1 e2 body) x=Sy.closeW (Sy.optW e0 (Sy.openP [⟨#[114,101,116,117,114,110]⟩] x)):=by
  unfold Sy.smW
  rfl
 rw [hM] at hb
 have HM:=zz hM
 have HBC:=zz hb
 have hb1:=Nat.le_trans (Sy.close_mono (Sy.optW e0 (Sy.openP [⟨#[114,101,116,117,114,110]⟩] x))) hb
 have hb0:=Nat.le_trans (Sy.opt_mono e0 (Sy.openP [⟨#[114,101,116,117,114,110]⟩] x)) hb1
 have HB0:=zz hb0
 have HB1:=zz hb1
 have HWE:=zz hW
 have HAG:=zz hA
 have HGB:=zz hg
 have HRW:=zz hr
 have HEX:=zz hE
 have H0:=zz h0
 have H1:=zz h1
 have H2:=zz h2
 unfold Sy.okN at ho hon
 rw [decide_eq_true_eq] at ho hon
 have hr:=hA.row hr hg
 have c0:w.cell? ⟨g,0,none⟩=some (.int .i64 13):=by rw [cell_of_row w g 0 _ _ _ hr]; rfl
 clear hM hb hb0 hb1 hW hA hg hE h0 h1 h2 ho hon hl hr
 go_enter Tryz.func60,Tryz.ntmps60
 go_wp2_with fail
 refine (head_as 13 (by decide) 13 rfl w).mono ?_
 rintro e' v0 ⟨rfl,hk⟩
 have HKv0:=zz hk
 clear hk c0
 change Hid (Keeps No w v0) at HKv0
 have hk3:Keeps No v0 (v0.alloc (.cells #[.string ⟨#[114,101,116,117,114,110]⟩] 9)):=(Keeps.refl _ _).alloc _
 have hp3:(v0.alloc (.cells #[.string ⟨#[114,101,116,117,114,110]⟩] 9)).heap[v0.heap.size]?=some (.cells #[.string ⟨#[114,101,116,117,114,110]⟩] 9 (0,0)):=heap_alloc_new _ _
 have hne3:v0.heap.size ≠ W:=by have:=HWE.out.bw.lt; have:=HKv0.out.size; omega
 have HKv3:Hid (Keeps No w (v0.alloc (.cells #[.string ⟨#[114,101,116,117,114,110]⟩] 9))):=zz (HKv0.out.trans hk3 (fun _ _ e=>e))
 have HPT:Hid (Pts (v0.alloc (.cells #[.string ⟨#[114,101,116,117,114,110]⟩] 9)) W (.slice (some ⟨v0.heap.size,0,none⟩) 1 1) [⟨#[114,101,116,117,114,110]⟩]):=zz ⟨by simp,.inr ⟨v0.heap.size,rfl,hp3,hne3⟩⟩
 clear hk3 hp3 hne3
 go_wp2_with fail
 refine (open_any W B x [⟨#[114,101,116,117,114,110]⟩] _ _ (HWE.out.no HKv3.out) HPT.out HB0.out).mono ?_
 rintro e' w1 ⟨rfl,hx⟩
 have HX0:Hid (WX w w1 W B (Sy.openP [⟨#[114,101,116,117,114,110]⟩] x)):=zz (WX.after HKv3.out hx)
 clear hx
 have HA0:=zz (HAG.out.wx HX0.out)
 have hr:=HA0.out.row HRW.out HGB.out
 have c0:w1.cell? ⟨g,0,none⟩=some (.int .i64 13):=by rw [cell_of_row w1 g 0 _ _ _ hr]; rfl
 have c9:w1.cell? ⟨g,9,none⟩=some (.pointer p0):=by rw [cell_of_row w1 g 9 _ _ _ hr]; rfl
 clear hr
 go_wp2_with fail
 refine (H0.out w1 (Sy.openP [⟨#[114,101,116,117,114,110]⟩] x) HA0.out HX0.out.p HB1.out).mono ?_
 rintro e' w2 ⟨rfl,hx⟩
 have HX1:=zz (HX0.out.trans hx)
 have HA1:=zz (HA0.out.wx hx)
 have hr:=HA1.out.row HRW.out HGB.out
 clear hx c0 c9
 clear hr
 go_wp2_with fail
 refine (close_any W B (Sy.optW e0 (Sy.openP [⟨#[114,101,116,117,114,110]⟩] x)) w2 HX1.out.p HBC.out).mono ?_
 rintro e' z9 ⟨rfl,hx⟩
 have HX9:=zz (HX1.out.trans hx)
 clear hx
 go_wp2_with fail
 go_returns
 exact ⟨rfl,by rw [HM.out]; exact HX9.out⟩
theorem sm_k14 (W B:Nat) (x:Sy.Wr) (w0 w:World) (g:Nat) (vn base name:ByteArray) (stars vnum num:Int) (va minus:Bool) (p0 p1 p2:Option Addr) (e0 e1 e2:Option Sy.Ex) (sa:Option Addr) (n sc:Nat) (body:List Sy.Sm) (hW:WE w W B x) (hA:Agr B w0 w) (hg:g < B)
    (hr:w0.heap[g]?=some (.cells (smRow 14 ⟨vn,⟨base,stars⟩,va,vnum⟩ name minus num p0 p1 p2 (.slice sa n sc)) 132 (0,0)))
    (h0:Told 99 W B w0 p0 (Sy.optW e0)) (h1:Told 99 W B w0 p1 (Sy.optW e1)) (h2:Told 99 W B w0 p2 (Sy.optW e2)) (hl:n=body.length)
    (hE:∀ (w2:World) (y:Sy.Wr),Agr B w0 w2→WE w2 W B y→(Sy.smsW body y).out.size≤BIG→Calls Tryz.prog 98 #[.pointer (some ⟨W,0,none⟩),.slice sa n sc] w2 (WrPost w2 W B (Sy.smsW body y)))
    (ho:Sy.okN stars vnum=true) (hon:Sy.okN 0 num=true) (hb:(Sy.smW (.mk 14 ⟨vn,⟨base,stars⟩,va,vnum⟩ name minus num e0 e1 e2 body) x).out.size≤BIG) :
    Calls Tryz.prog 60 #[.pointer (some ⟨W,0,none⟩),.pointer (some ⟨g,0,none⟩)] w (WrPost w W B (Sy.smW (.mk 14 ⟨vn,⟨base,stars⟩,va,vnum⟩ name minus num e0 e1 e2 body) x)):=by
 have hM:Sy.smW (.mk 14 ⟨vn,⟨base,stars⟩,va,vnum⟩ name minus num e0 e1 e2 body) x=Sy.closeW (Sy.partW name (Sy.openP [⟨#[103,111,116,111]⟩] x)):=by
  unfold Sy.smW
  rfl
 rw [hM] at hb
 have HM:=zz hM
 have HBC:=zz hb
 have hb1:=Nat.le_trans (Sy.close_mono (Sy.partW name (Sy.openP [⟨#[103,111,116,111]⟩] x))) hb
 have hb0:=Nat.le_trans (Sy.part_mono name (Sy.openP [⟨#[103,111,116,111]⟩] x)) hb1
 have HB0:=zz hb0
 have HB1:=zz hb1
 have HWE:=zz hW
 have HAG:=zz hA
 have HGB:=zz hg
 have HRW:=zz hr
 have HEX:=zz hE
 have H0:=zz h0
 have H1:=zz h1
 have H2:=zz h2
 unfold Sy.okN at ho hon
 rw [decide_eq_true_eq] at ho hon
 have hr:=hA.row hr hg
 have c0:w.cell? ⟨g,0,none⟩=some (.int .i64 14):=by rw [cell_of_row w g 0 _ _ _ hr]; rfl
 clear hM hb hb0 hb1 hW hA hg hE h0 h1 h2 ho hon hl hr
 go_enter Tryz.func60,Tryz.ntmps60
 go_wp2_with fail
 refine (head_as 14 (by decide) 14 rfl w).mono ?_
 rintro e' v0 ⟨rfl,hk⟩
 have HKv0:=zz hk
 clear hk c0
 change Hid (Keeps No w v0) at HKv0
 have hk3:Keeps No v0 (v0.alloc (.cells #[.string ⟨#[103,111,116,111]⟩] 9)):=(Keeps.refl _ _).alloc _
 have hp3:(v0.alloc (.cells #[.string ⟨#[103,111,116,111]⟩] 9)).heap[v0.heap.size]?=some (.cells #[.string ⟨#[103,111,116,111]⟩] 9 (0,0)):=heap_alloc_new _ _
 have hne3:v0.heap.size ≠ W:=by have:=HWE.out.bw.lt; have:=HKv0.out.size; omega
 have HKv3:Hid (Keeps No w (v0.alloc (.cells #[.string ⟨#[103,111,116,111]⟩] 9))):=zz (HKv0.out.trans hk3 (fun _ _ e=>e))
 have HPT:Hid (Pts (v0.alloc (.cells #[.string ⟨#[103,111,116,111]⟩] 9)) W (.slice (some ⟨v0.heap.size,0,none⟩) 1 1) [⟨#[103,111,116,111]⟩]):=zz ⟨by simp,.inr ⟨v0.heap.size,rfl,hp3,hne3⟩⟩
 clear hk3 hp3 hne3
 go_wp2_with fail
 refine (open_any W B x [⟨#[103,111,116,111]⟩] _ _ (HWE.out.no HKv3.out) HPT.out HB0.out).mono ?_
 rintro e' w1 ⟨rfl,hx⟩
 have HX0:Hid (WX w w1 W B (Sy.openP [⟨#[103,111,116,111]⟩] x)):=zz (WX.after HKv3.out hx)
 clear hx
 have HA0:=zz (HAG.out.wx HX0.out)
 have hr:=HA0.out.row HRW.out HGB.out
 have c0:w1.cell? ⟨g,0,none⟩=some (.int .i64 14):=by rw [cell_of_row w1 g 0 _ _ _ hr]; rfl
 have c6:w1.cell? ⟨g,6,none⟩=some (.string name):=by rw [cell_of_row w1 g 6 _ _ _ hr]; rfl
 clear hr
 go_wp2_with fail
 refine (part_any W B (Sy.openP [⟨#[103,111,116,111]⟩] x) name w1 HX0.out.p HB1.out).mono ?_
 rintro e' w2 ⟨rfl,hx⟩
 have HX1:=zz (HX0.out.trans hx)
 have HA1:=zz (HA0.out.wx hx)
 have hr:=HA1.out.row HRW.out HGB.out
 clear hx c0 c6
 clear hr
 go_wp2_with fail
 refine (close_any W B (Sy.partW name (Sy.openP [⟨#[103,111,116,111]⟩] x)) w2 HX1.out.p HBC.out).mono ?_
 rintro e' z9 ⟨rfl,hx⟩
 have HX9:=zz (HX1.out.trans hx)
 clear hx
 go_wp2_with fail
 go_returns
 exact ⟨rfl,by rw [HM.out]; exact HX9.out⟩
theorem sm_k15 (W B:Nat) (x:Sy.Wr) (w0 w:World) (g:Nat) (vn base name:ByteArray) (stars vnum num:Int) (va minus:Bool) (p0 p1 p2:Option Addr) (e0 e1 e2:Option Sy.Ex) (sa:Option Addr) (n sc:Nat) (body:List Sy.Sm) (hW:WE w W B x) (hA:Agr B w0 w) (hg:g < B)
    (hr:w0.heap[g]?=some (.cells (smRow 15 ⟨vn,⟨base,stars⟩,va,vnum⟩ name minus num p0 p1 p2 (.slice sa n sc)) 132 (0,0)))
    (h0:Told 99 W B w0 p0 (Sy.optW e0)) (h1:Told 99 W B w0 p1 (Sy.optW e1)) (h2:Told 99 W B w0 p2 (Sy.optW e2)) (hl:n=body.length)
    (hE:∀ (w2:World) (y:Sy.Wr),Agr B w0 w2→WE w2 W B y→(Sy.smsW body y).out.size≤BIG→Calls Tryz.prog 98 #[.pointer (some ⟨W,0,none⟩),.slice sa n sc] w2 (WrPost w2 W B (Sy.smsW body y)))
    (ho:Sy.okN stars vnum=true) (hon:Sy.okN 0 num=true) (hb:(Sy.smW (.mk 15 ⟨vn,⟨base,stars⟩,va,vnum⟩ name minus num e0 e1 e2 body) x).out.size≤BIG) :
    Calls Tryz.prog 60 #[.pointer (some ⟨W,0,none⟩),.pointer (some ⟨g,0,none⟩)] w (WrPost w W B (Sy.smW (.mk 15 ⟨vn,⟨base,stars⟩,va,vnum⟩ name minus num e0 e1 e2 body) x)):=by
 have hM:Sy.smW (.mk 15 ⟨vn,⟨base,stars⟩,va,vnum⟩ name minus num e0 e1 e2 body) x=Sy.closeW (Sy.smsW body (Sy.partW name (Sy.openP [⟨#[108,97,98,101,108]⟩] x))):=by
  unfold Sy.smW
  rfl
 rw [hM] at hb
 have HM:=zz hM
 have HBC:=zz hb
 have hb2:=Nat.le_trans (Sy.close_mono (Sy.smsW body (Sy.partW name (Sy.openP [⟨#[108,97,98,101,108]⟩] x)))) hb
 have hb1:=Nat.le_trans (Sy.sms_mono body (Sy.partW name (Sy.openP [⟨#[108,97,98,101,108]⟩] x))) hb2
 have hb0:=Nat.le_trans (Sy.part_mono name (Sy.openP [⟨#[108,97,98,101,108]⟩] x)) hb1
 have HB0:=zz hb0
 have HB1:=zz hb1
 have HB2:=zz hb2
 have HWE:=zz hW
 have HAG:=zz hA
 have HGB:=zz hg
 have HRW:=zz hr
 have HEX:=zz hE
 have H0:=zz h0
 have H1:=zz h1
 have H2:=zz h2
 unfold Sy.okN at ho hon
 rw [decide_eq_true_eq] at ho hon
 have hr:=hA.row hr hg
 have c0:w.cell? ⟨g,0,none⟩=some (.int .i64 15):=by rw [cell_of_row w g 0 _ _ _ hr]; rfl
 clear hM hb hb0 hb1 hb2 hW hA hg hE h0 h1 h2 ho hon hl hr
 go_enter Tryz.func60,Tryz.ntmps60
 go_wp2_with fail
 refine (head_as 15 (by decide) 15 rfl w).mono ?_
 rintro e' v0 ⟨rfl,hk⟩
 have HKv0:=zz hk
 clear hk c0
 change Hid (Keeps No w v0) at HKv0
 have hk3:Keeps No v0 (v0.alloc (.cells #[.string ⟨#[108,97,98,101,108]⟩] 9)):=(Keeps.refl _ _).alloc _
 have hp3:(v0.alloc (.cells #[.string ⟨#[108,97,98,101,108]⟩] 9)).heap[v0.heap.size]?=some (.cells #[.string ⟨#[108,97,98,101,108]⟩] 9 (0,0)):=heap_alloc_new _ _
 have hne3:v0.heap.size ≠ W:=by have:=HWE.out.bw.lt; have:=HKv0.out.size; omega
 have HKv3:Hid (Keeps No w (v0.alloc (.cells #[.string ⟨#[108,97,98,101,108]⟩] 9))):=zz (HKv0.out.trans hk3 (fun _ _ e=>e))
 have HPT:Hid (Pts (v0.alloc (.cells #[.string ⟨#[108,97,98,101,108]⟩] 9)) W (.slice (some ⟨v0.heap.size,0,none⟩) 1 1) [⟨#[108,97,98,101,108]⟩]):=zz ⟨by simp,.inr ⟨v0.heap.size,rfl,hp3,hne3⟩⟩
 clear hk3 hp3 hne3
 go_wp2_with fail
 refine (open_any W B x [⟨#[108,97,98,101,108]⟩] _ _ (HWE.out.no HKv3.out) HPT.out HB0.out).mono ?_
 rintro e' w1 ⟨rfl,hx⟩
 have HX0:Hid (WX w w1 W B (Sy.openP [⟨#[108,97,98,101,108]⟩] x)):=zz (WX.after HKv3.out hx)
 clear hx
 have HA0:=zz (HAG.out.wx HX0.out)
 have hr:=HA0.out.row HRW.out HGB.out
 have c0:w1.cell? ⟨g,0,none⟩=some (.int .i64 15):=by rw [cell_of_row w1 g 0 _ _ _ hr]; rfl
 have c6:w1.cell? ⟨g,6,none⟩=some (.string name):=by rw [cell_of_row w1 g 6 _ _ _ hr]; rfl
 clear hr
 go_wp2_with fail
 refine (part_any W B (Sy.openP [⟨#[108,97,98,101,108]⟩] x) name w1 HX0.out.p HB1.out).mono ?_
 rintro e' w2 ⟨rfl,hx⟩
 have HX1:=zz (HX0.out.trans hx)
 have HA1:=zz (HA0.out.wx hx)
 have hr:=HA1.out.row HRW.out HGB.out
 clear hx c0 c6
 have c12:w2.cell? ⟨g,12,none⟩=some (.slice sa n sc):=by rw [cell_of_row w2 g 12 _ _ _ hr]; rfl
 clear hr
 go_wp2_with fail
 refine (HEX.out w2 (Sy.partW name (Sy.openP [⟨#[108,97,98,101,108]⟩] x)) HA1.out HX1.out.p HB2.out).mono ?_
 rintro e' w3 ⟨rfl,hx⟩
 have HX2:=zz (HX1.out.trans hx)
 have HA2:=zz (HA1.out.wx hx)
 have hr:=HA2.out.row HRW.out HGB.out
 clear hx c12
 clear hr
 go_wp2_with fail
 refine (close_any W B (Sy.smsW body (Sy.partW name (Sy.openP [⟨#[108,97,98,101,108]⟩] x))) w3 HX2.out.p HBC.out).mono ?_
 rintro e' z9 ⟨rfl,hx⟩
 have HX9:=zz (HX2.out.trans hx)
 clear hx
 go_wp2_with fail
 go_returns
 exact ⟨rfl,by rw [HM.out]; exact HX9.out⟩
theorem sm_k16 (W B:Nat) (x:Sy.Wr) (w0 w:World) (g:Nat) (vn base name:ByteArray) (stars vnum num:Int) (va minus:Bool) (p0 p1 p2:Option Addr) (e0 e1 e2:Option Sy.Ex) (sa:Option Addr) (n sc:Nat) (body:List Sy.Sm) (hW:WE w W B x) (hA:Agr B w0 w) (hg:g < B)
    (hr:w0.heap[g]?=some (.cells (smRow 16 ⟨vn,⟨base,stars⟩,va,vnum⟩ name minus num p0 p1 p2 (.slice sa n sc)) 132 (0,0)))
    (h0:Told 99 W B w0 p0 (Sy.optW e0)) (h1:Told 99 W B w0 p1 (Sy.optW e1)) (h2:Told 99 W B w0 p2 (Sy.optW e2)) (hl:n=body.length)
    (hE:∀ (w2:World) (y:Sy.Wr),Agr B w0 w2→WE w2 W B y→(Sy.smsW body y).out.size≤BIG→Calls Tryz.prog 98 #[.pointer (some ⟨W,0,none⟩),.slice sa n sc] w2 (WrPost w2 W B (Sy.smsW body y)))
    (ho:Sy.okN stars vnum=true) (hon:Sy.okN 0 num=true) (hb:(Sy.smW (.mk 16 ⟨vn,⟨base,stars⟩,va,vnum⟩ name minus num e0 e1 e2 body) x).out.size≤BIG) :
    Calls Tryz.prog 60 #[.pointer (some ⟨W,0,none⟩),.pointer (some ⟨g,0,none⟩)] w (WrPost w W B (Sy.smW (.mk 16 ⟨vn,⟨base,stars⟩,va,vnum⟩ name minus num e0 e1 e2 body) x)):=by
 have hM:Sy.smW (.mk 16 ⟨vn,⟨base,stars⟩,va,vnum⟩ name minus num e0 e1 e2 body) x=Sy.closeW (Sy.optW e0 (Sy.openP [⟨#[101,120,112,114]⟩] x)):=by
  unfold Sy.smW
  rfl
 rw [hM] at hb
 have HM:=zz hM
 have HBC:=zz hb
 have hb1:=Nat.le_trans (Sy.close_mono (Sy.optW e0 (Sy.openP [⟨#[101,120,112,114]⟩] x))) hb
 have hb0:=Nat.le_trans (Sy.opt_mono e0 (Sy.openP [⟨#[101,120,112,114]⟩] x)) hb1
 have HB0:=zz hb0
 have HB1:=zz hb1
 have HWE:=zz hW
 have HAG:=zz hA
 have HGB:=zz hg
 have HRW:=zz hr
 have HEX:=zz hE
 have H0:=zz h0
 have H1:=zz h1
 have H2:=zz h2
 unfold Sy.okN at ho hon
 rw [decide_eq_true_eq] at ho hon
 have hr:=hA.row hr hg
 have c0:w.cell? ⟨g,0,none⟩=some (.int .i64 16):=by rw [cell_of_row w g 0 _ _ _ hr]; rfl
 clear hM hb hb0 hb1 hW hA hg hE h0 h1 h2 ho hon hl hr
 go_enter Tryz.func60,Tryz.ntmps60
 go_wp2_with fail
 refine (head_as 16 (by decide) 16 rfl w).mono ?_
 rintro e' v0 ⟨rfl,hk⟩
 have HKv0:=zz hk
 clear hk c0
 change Hid (Keeps No w v0) at HKv0
 have hk3:Keeps No v0 (v0.alloc (.cells #[.string ⟨#[101,120,112,114]⟩] 9)):=(Keeps.refl _ _).alloc _
 have hp3:(v0.alloc (.cells #[.string ⟨#[101,120,112,114]⟩] 9)).heap[v0.heap.size]?=some (.cells #[.string ⟨#[101,120,112,114]⟩] 9 (0,0)):=heap_alloc_new _ _
 have hne3:v0.heap.size ≠ W:=by have:=HWE.out.bw.lt; have:=HKv0.out.size; omega
 have HKv3:Hid (Keeps No w (v0.alloc (.cells #[.string ⟨#[101,120,112,114]⟩] 9))):=zz (HKv0.out.trans hk3 (fun _ _ e=>e))
 have HPT:Hid (Pts (v0.alloc (.cells #[.string ⟨#[101,120,112,114]⟩] 9)) W (.slice (some ⟨v0.heap.size,0,none⟩) 1 1) [⟨#[101,120,112,114]⟩]):=zz ⟨by simp,.inr ⟨v0.heap.size,rfl,hp3,hne3⟩⟩
 clear hk3 hp3 hne3
 go_wp2_with fail
 refine (open_any W B x [⟨#[101,120,112,114]⟩] _ _ (HWE.out.no HKv3.out) HPT.out HB0.out).mono ?_
 rintro e' w1 ⟨rfl,hx⟩
 have HX0:Hid (WX w w1 W B (Sy.openP [⟨#[101,120,112,114]⟩] x)):=zz (WX.after HKv3.out hx)
 clear hx
 have HA0:=zz (HAG.out.wx HX0.out)
 have hr:=HA0.out.row HRW.out HGB.out
 have c0:w1.cell? ⟨g,0,none⟩=some (.int .i64 16):=by rw [cell_of_row w1 g 0 _ _ _ hr]; rfl
 have c9:w1.cell? ⟨g,9,none⟩=some (.pointer p0):=by rw [cell_of_row w1 g 9 _ _ _ hr]; rfl
 clear hr
 go_wp2_with fail
 refine (H0.out w1 (Sy.openP [⟨#[101,120,112,114]⟩] x) HA0.out HX0.out.p HB1.out).mono ?_
 rintro e' w2 ⟨rfl,hx⟩
 have HX1:=zz (HX0.out.trans hx)
 have HA1:=zz (HA0.out.wx hx)
 have hr:=HA1.out.row HRW.out HGB.out
 clear hx c0 c9
 clear hr
 go_wp2_with fail
 refine (close_any W B (Sy.optW e0 (Sy.openP [⟨#[101,120,112,114]⟩] x)) w2 HX1.out.p HBC.out).mono ?_
 rintro e' z9 ⟨rfl,hx⟩
 have HX9:=zz (HX1.out.trans hx)
 clear hx
 go_wp2_with fail
 go_returns
 exact ⟨rfl,by rw [HM.out]; exact HX9.out⟩
theorem sm_k7 (W B:Nat) (x:Sy.Wr) (w0 w:World) (g:Nat) (vn base name:ByteArray) (stars vnum num:Int) (va minus:Bool) (p0 p1 p2:Option Addr) (e0 e1 e2:Option Sy.Ex) (sa:Option Addr) (n sc:Nat) (body:List Sy.Sm) (hW:WE w W B x) (hA:Agr B w0 w) (hg:g < B)
    (hr:w0.heap[g]?=some (.cells (smRow 7 ⟨vn,⟨base,stars⟩,va,vnum⟩ name minus num p0 p1 p2 (.slice sa n sc)) 132 (0,0)))
    (h0:Told 99 W B w0 p0 (Sy.optW e0)) (h1:Told 99 W B w0 p1 (Sy.optW e1)) (h2:Told 99 W B w0 p2 (Sy.optW e2)) (hl:n=body.length)
    (hE:∀ (w2:World) (y:Sy.Wr),Agr B w0 w2→WE w2 W B y→(Sy.smsW body y).out.size≤BIG→Calls Tryz.prog 98 #[.pointer (some ⟨W,0,none⟩),.slice sa n sc] w2 (WrPost w2 W B (Sy.smsW body y)))
    (ho:Sy.okN stars vnum=true) (hon:Sy.okN 0 num=true) (hb:(Sy.smW (.mk 7 ⟨vn,⟨base,stars⟩,va,vnum⟩ name minus num e0 e1 e2 body) x).out.size≤BIG) :
    Calls Tryz.prog 60 #[.pointer (some ⟨W,0,none⟩),.pointer (some ⟨g,0,none⟩)] w (WrPost w W B (Sy.smW (.mk 7 ⟨vn,⟨base,stars⟩,va,vnum⟩ name minus num e0 e1 e2 body) x)):=by
 have hM:Sy.smW (.mk 7 ⟨vn,⟨base,stars⟩,va,vnum⟩ name minus num e0 e1 e2 body) x=Sy.closeW (Sy.smsW body (Sy.optW e2 (Sy.optW e1 (Sy.optW e0 (Sy.openP [⟨#[102,111,114]⟩] x))))):=by
  unfold Sy.smW
  rfl
 rw [hM] at hb
 have HM:=zz hM
 have HBC:=zz hb
 have hb4:=Nat.le_trans (Sy.close_mono (Sy.smsW body (Sy.optW e2 (Sy.optW e1 (Sy.optW e0 (Sy.openP [⟨#[102,111,114]⟩] x)))))) hb
 have hb3:=Nat.le_trans (Sy.sms_mono body (Sy.optW e2 (Sy.optW e1 (Sy.optW e0 (Sy.openP [⟨#[102,111,114]⟩] x))))) hb4
 have hb2:=Nat.le_trans (Sy.opt_mono e2 (Sy.optW e1 (Sy.optW e0 (Sy.openP [⟨#[102,111,114]⟩] x)))) hb3
 have hb1:=Nat.le_trans (Sy.opt_mono e1 (Sy.optW e0 (Sy.openP [⟨#[102,111,114]⟩] x))) hb2
 have hb0:=Nat.le_trans (Sy.opt_mono e0 (Sy.openP [⟨#[102,111,114]⟩] x)) hb1
 have HB0:=zz hb0
 have HB1:=zz hb1
 have HB2:=zz hb2
 have HB3:=zz hb3
 have HB4:=zz hb4
 have HWE:=zz hW
 have HAG:=zz hA
 have HGB:=zz hg
 have HRW:=zz hr
 have HEX:=zz hE
 have H0:=zz h0
 have H1:=zz h1
 have H2:=zz h2
 unfold Sy.okN at ho hon
 rw [decide_eq_true_eq] at ho hon
 have hr:=hA.row hr hg
 have c0:w.cell? ⟨g,0,none⟩=some (.int .i64 7):=by rw [cell_of_row w g 0 _ _ _ hr]; rfl
 clear hM hb hb0 hb1 hb2 hb3 hb4 hW hA hg hE h0 h1 h2 ho hon hl hr
 go_enter Tryz.func60,Tryz.ntmps60
 go_wp2_with fail
 refine (head_as 7 (by decide) 7 rfl w).mono ?_
 rintro e' v0 ⟨rfl,hk⟩
 have HKv0:=zz hk
 clear hk c0
 change Hid (Keeps No w v0) at HKv0
 have hk3:Keeps No v0 (v0.alloc (.cells #[.string ⟨#[102,111,114]⟩] 9)):=(Keeps.refl _ _).alloc _
 have hp3:(v0.alloc (.cells #[.string ⟨#[102,111,114]⟩] 9)).heap[v0.heap.size]?=some (.cells #[.string ⟨#[102,111,114]⟩] 9 (0,0)):=heap_alloc_new _ _
 have hne3:v0.heap.size ≠ W:=by have:=HWE.out.bw.lt; have:=HKv0.out.size; omega
 have HKv3:Hid (Keeps No w (v0.alloc (.cells #[.string ⟨#[102,111,114]⟩] 9))):=zz (HKv0.out.trans hk3 (fun _ _ e=>e))
 have HPT:Hid (Pts (v0.alloc (.cells #[.string ⟨#[102,111,114]⟩] 9)) W (.slice (some ⟨v0.heap.size,0,none⟩) 1 1) [⟨#[102,111,114]⟩]):=zz ⟨by simp,.inr ⟨v0.heap.size,rfl,hp3,hne3⟩⟩
 clear hk3 hp3 hne3
 go_wp2_with fail
 refine (open_any W B x [⟨#[102,111,114]⟩] _ _ (HWE.out.no HKv3.out) HPT.out HB0.out).mono ?_
 rintro e' w1 ⟨rfl,hx⟩
 have HX0:Hid (WX w w1 W B (Sy.openP [⟨#[102,111,114]⟩] x)):=zz (WX.after HKv3.out hx)
 clear hx
 have HA0:=zz (HAG.out.wx HX0.out)
 have hr:=HA0.out.row HRW.out HGB.out
 have c0:w1.cell? ⟨g,0,none⟩=some (.int .i64 7):=by rw [cell_of_row w1 g 0 _ _ _ hr]; rfl
 have c9:w1.cell? ⟨g,9,none⟩=some (.pointer p0):=by rw [cell_of_row w1 g 9 _ _ _ hr]; rfl
 have c10:w1.cell? ⟨g,10,none⟩=some (.pointer p1):=by rw [cell_of_row w1 g 10 _ _ _ hr]; rfl
 have c11:w1.cell? ⟨g,11,none⟩=some (.pointer p2):=by rw [cell_of_row w1 g 11 _ _ _ hr]; rfl
 clear hr
 go_wp2_with fail
 clear c0 c9 c10 c11
 have i0:=fun W=>(ix3 p0 p1 p2 W).1
 have i1:=fun W=>(ix3 p0 p1 p2 W).2.1
 have i2:=fun W=>(ix3 p0 p1 p2 W).2.2
 go_loopg [118] 3 (fun m u wr=>(u=.int .i64 0∧m=3∧Hid (WX w wr W B (Sy.openP [⟨#[102,111,114]⟩] x)))∨(u=.int .i64 1∧m=2∧Hid (WX w wr W B (Sy.optW e0 (Sy.openP [⟨#[102,111,114]⟩] x))))∨(u=.int .i64 2∧m=1∧Hid (WX w wr W B (Sy.optW e1 (Sy.optW e0 (Sy.openP [⟨#[102,111,114]⟩] x)))))∨(u=.int .i64 3∧m=0∧Hid (WX w wr W B (Sy.optW e2 (Sy.optW e1 (Sy.optW e0 (Sy.openP [⟨#[102,111,114]⟩] x)))))))
 case atStart=>exact .inl ⟨rfl,rfl,HX0⟩
 case round =>
  rcases hrel with ⟨rfl,rfl,HXR⟩ | ⟨rfl,rfl,HXR⟩ | ⟨rfl,rfl,HXR⟩ | ⟨rfl,rfl,HXR⟩
  · go_wp2_with fail
    refine (H0.out wr (Sy.openP [⟨#[102,111,114]⟩] x) (HAG.out.wx HXR.out) HXR.out.p HB1.out).mono ?_
    rintro e' w9 ⟨rfl,hx⟩
    have HX9:=zz (HXR.out.trans hx)
    clear hx
    go_wp2_with fail
    go_roundg 2
    case rel=>exact .inr (.inl ⟨rfl,rfl,HX9⟩)
    case measure=>omega
  · go_wp2_with fail
    refine (H1.out wr (Sy.optW e0 (Sy.openP [⟨#[102,111,114]⟩] x)) (HAG.out.wx HXR.out) HXR.out.p HB2.out).mono ?_
    rintro e' w9 ⟨rfl,hx⟩
    have HX9:=zz (HXR.out.trans hx)
    clear hx
    go_wp2_with fail
    go_roundg 1
    case rel=>exact .inr (.inr (.inl ⟨rfl,rfl,HX9⟩))
    case measure=>omega
  · go_wp2_with fail
    refine (H2.out wr (Sy.optW e1 (Sy.optW e0 (Sy.openP [⟨#[102,111,114]⟩] x))) (HAG.out.wx HXR.out) HXR.out.p HB3.out).mono ?_
    rintro e' w9 ⟨rfl,hx⟩
    have HX9:=zz (HXR.out.trans hx)
    clear hx
    go_wp2_with fail
    go_roundg 0
    case rel=>exact .inr (.inr (.inr (⟨rfl,rfl,HX9⟩)))
    case measure=>omega
  · have HA3:=zz (HAG.out.wx HXR.out)
    have hr:=HA3.out.row HRW.out HGB.out
    have c12:wr.cell? ⟨g,12,none⟩=some (.slice sa n sc):=by rw [cell_of_row wr g 12 _ _ _ hr]; rfl
    clear hr
    go_wp2_with fail
    refine (HEX.out wr (Sy.optW e2 (Sy.optW e1 (Sy.optW e0 (Sy.openP [⟨#[102,111,114]⟩] x)))) HA3.out HXR.out.p HB4.out).mono ?_
    rintro e' w5 ⟨rfl,hx⟩
    have HX4:=zz (HXR.out.trans hx)
    clear hx c12
    go_wp2_with fail
    refine (close_any W B (Sy.smsW body (Sy.optW e2 (Sy.optW e1 (Sy.optW e0 (Sy.openP [⟨#[102,111,114]⟩] x))))) w5 HX4.out.p HBC.out).mono ?_
    rintro e' z9 ⟨rfl,hx⟩
    have HX9:=zz (HX4.out.trans hx)
    clear hx
    go_wp2_with fail
    go_returns
    exact ⟨rfl,by rw [HM.out]; exact HX9.out⟩
theorem stmt_told (W B:Nat) (w0:World) (a:Option Addr) (s:Sy.Sm) (h:SmD w0 (fun q=>q < B) a s):Sy.okS s=true→Told 60 W B w0 a (Sy.smW s):=by
 induction h with
 | mk g sa sc av kind v name minus num p0 p1 p2 e0 e1 e2 body hD hrow h0 h1 h2 hs hsd hl hsub ih =>
   intro hok w x hA hW hb
   obtain ⟨vn,⟨base,stars⟩,va,vnum⟩:=v
   unfold Sy.okS at hok
   simp only [Bool.and_eq_true] at hok
   obtain ⟨hk,hv,hn,g0,g1,g2,gb⟩:=hok
   rw [decide_eq_true_eq] at hk
   have hE:=stmts_any W B w0 sa sc av body ⟨hs,hsd⟩ hl (fun i a e h1 h2=>ih i a e h1 h2 (Sy.okSs_get gb h2))
   have t0:=opt_told W B w0 p0 e0 h0 g0
   have t1:=opt_told W B w0 p1 e1 h1 g1
   have t2:=opt_told W B w0 p2 e2 h2 g2
   have hc:kind=1∨kind=2∨kind=3∨kind=4∨kind=5∨kind=6∨kind=7∨kind=8∨kind=9∨kind=10∨kind=11∨kind=12∨kind=13∨kind=14∨kind=15∨kind=16:=by omega
   rcases hc with rfl | rfl | rfl | rfl | rfl | rfl | rfl | rfl | rfl | rfl | rfl | rfl | rfl | rfl | rfl | rfl
   · exact sm_k1 W B x w0 w g vn base name stars vnum num va minus p0 p1 p2 e0 e1 e2 sa av.length sc body hW hA hD hrow t0 t1 t2 hl hE hv hn hb
   · exact sm_k2 W B x w0 w g vn base name stars vnum num va minus p0 p1 p2 e0 e1 e2 sa av.length sc body hW hA hD hrow t0 t1 t2 hl hE hv hn hb
   · exact sm_k3 W B x w0 w g vn base name stars vnum num va minus p0 p1 p2 e0 e1 e2 sa av.length sc body hW hA hD hrow t0 t1 t2 hl hE hv hn hb
   · by_cases hq:body.length=1
     · exact sm_k4a W B x w0 w g vn base name stars vnum num va minus p0 p1 p2 e0 e1 e2 sa av.length sc body hW hA hD hrow t0 t1 t2 hl hE hv hn hq hb
     · exact sm_k4b W B x w0 w g vn base name stars vnum num va minus p0 p1 p2 e0 e1 e2 sa av.length sc body hW hA hD hrow t0 t1 t2 hl hE hv hn hq hb
   · exact sm_k5 W B x w0 w g vn base name stars vnum num va minus p0 p1 p2 e0 e1 e2 sa av.length sc body hW hA hD hrow t0 t1 t2 hl hE hv hn hb
   · exact sm_k6 W B x w0 w g vn base name stars vnum num va minus p0 p1 p2 e0 e1 e2 sa av.length sc body hW hA hD hrow t0 t1 t2 hl hE hv hn hb
   · exact sm_k7 W B x w0 w g vn base name stars vnum num va minus p0 p1 p2 e0 e1 e2 sa av.length sc body hW hA hD hrow t0 t1 t2 hl hE hv hn hb
   · exact sm_k8 W B x w0 w g vn base name stars vnum num va minus p0 p1 p2 e0 e1 e2 sa av.length sc body hW hA hD hrow t0 t1 t2 hl hE hv hn hb
   · cases minus with
     | false=>exact sm_k9a W B x w0 w g vn base name stars vnum num va false p0 p1 p2 e0 e1 e2 sa av.length sc body hW hA hD hrow t0 t1 t2 hl hE hv hn hb
     | true =>
       by_cases hq:num=0
       · exact sm_k9b W B x w0 w g vn base name stars vnum num va true p0 p1 p2 e0 e1 e2 sa av.length sc body hW hA hD hrow t0 t1 t2 hl hE hv hn hq hb
       · exact sm_k9c W B x w0 w g vn base name stars vnum num va true p0 p1 p2 e0 e1 e2 sa av.length sc body hW hA hD hrow t0 t1 t2 hl hE hv hn hq hb
   · exact sm_k10 W B x w0 w g vn base name stars vnum num va minus p0 p1 p2 e0 e1 e2 sa av.length sc body hW hA hD hrow t0 t1 t2 hl hE hv hn hb
   · exact sm_k11 W B x w0 w g vn base name stars vnum num va minus p0 p1 p2 e0 e1 e2 sa av.length sc body hW hA hD hrow t0 t1 t2 hl hE hv hn hb
   · exact sm_k12 W B x w0 w g vn base name stars vnum num va minus p0 p1 p2 e0 e1 e2 sa av.length sc body hW hA hD hrow t0 t1 t2 hl hE hv hn hb
   · exact sm_k13 W B x w0 w g vn base name stars vnum num va minus p0 p1 p2 e0 e1 e2 sa av.length sc body hW hA hD hrow t0 t1 t2 hl hE hv hn hb
   · exact sm_k14 W B x w0 w g vn base name stars vnum num va minus p0 p1 p2 e0 e1 e2 sa av.length sc body hW hA hD hrow t0 t1 t2 hl hE hv hn hb
   · exact sm_k15 W B x w0 w g vn base name stars vnum num va minus p0 p1 p2 e0 e1 e2 sa av.length sc body hW hA hD hrow t0 t1 t2 hl hE hv hn hb
   · exact sm_k16 W B x w0 w g vn base name stars vnum num va minus p0 p1 p2 e0 e1 e2 sa av.length sc body hW hA hD hrow t0 t1 t2 hl hE hv hn hb
theorem flat_get5:∀ (l:List Sy.Vr) (i:Nat) (y:Sy.Vr) (j:Nat) (v:Value),l[i]?=some y→(vrVals y)[j]?=some v→(l.flatMap vrVals)[i * 5+j]?=some v
 | [],i,y,j,v,h,_=>by cases h
 | a :: t,0,y,j,v,h,hj=>by
   injection h with h; subst h
   have hjl:j < (vrVals a).length:=(List.getElem?_eq_some_iff.1 hj).1
   rw [Nat.zero_mul,Nat.zero_add,List.flatMap_cons,List.getElem?_append_left hjl]
   exact hj
 | a :: t,i+1,y,j,v,h,hj=>by
   have e:(vrVals a).length=5:=rfl
   rw [List.flatMap_cons,List.getElem?_append_right (by omega),e,show (i+1) * 5+j - 5=i * 5+j by omega]
   exact flat_get5 t i y j v h hj
theorem flat_get2:∀ (l:List Sy.Ty) (i:Nat) (y:Sy.Ty) (j:Nat) (v:Value),l[i]?=some y→(tyVals y)[j]?=some v→(l.flatMap tyVals)[i * 2+j]?=some v
 | [],i,y,j,v,h,_=>by cases h
 | a :: t,0,y,j,v,h,hj=>by
   injection h with h; subst h
   have hjl:j < (tyVals a).length:=(List.getElem?_eq_some_iff.1 hj).1
   rw [Nat.zero_mul,Nat.zero_add,List.flatMap_cons,List.getElem?_append_left hjl]
   exact hj
 | a :: t,i+1,y,j,v,h,hj=>by
   have e:(tyVals a).length=2:=rfl
   rw [List.flatMap_cons,List.getElem?_append_right (by omega),e,show (i+1) * 2+j - 2=i * 2+j by omega]
   exact flat_get2 t i y j v h hj
theorem row_cell5 {w:World} {g:Nat} {vc n:Nat} {vs:List Sy.Vr} (h:w.ownsRow 0 62 5 (.slice (some ⟨g,0,none⟩) n vc) n (vs.flatMap vrVals)) {i:Nat} {y:Sy.Vr} (hy:vs[i]?=some y) {j:Nat} {v:Value} (hj:(vrVals y)[j]?=some v):w.cell? ⟨g,i * 5+j,none⟩=some v:=by
 have:=h.cells (g:=g) rfl (i * 5+j) v (flat_get5 vs i y j v hy hj)
 rw [Lib.add_plain,Nat.zero_add] at this; exact this
theorem row_cell2 {w:World} {g:Nat} {vc n:Nat} {vs:List Sy.Ty} (h:w.ownsRow 0 60 2 (.slice (some ⟨g,0,none⟩) n vc) n (vs.flatMap tyVals)) {i:Nat} {y:Sy.Ty} (hy:vs[i]?=some y) {j:Nat} {v:Value} (hj:(tyVals y)[j]?=some v):w.cell? ⟨g,i * 2+j,none⟩=some v:=by
 have:=h.cells (g:=g) rfl (i * 2+j) v (flat_get2 vs i y j v hy hj)
 rw [Lib.add_plain,Nat.zero_add] at this; exact this
theorem fold_le {α:Type} (f:Sy.Wr→α→Sy.Wr) (hf:∀ x v,x.out.size≤(f x v).out.size) (l:List α) (i:Nat) (x:Sy.Wr):((l.take i).foldl f x).out.size≤(l.foldl f x).out.size:=by
 have h:∀ (l:List α) (x:Sy.Wr),x.out.size≤(l.foldl f x).out.size:=by
  intro l
  induction l with
  | nil=>intro x; exact Nat.le_refl _
  | cons a t ih=>intro x; exact Nat.le_trans (hf x a) (ih _)
 have e:l.foldl f x=(l.drop i).foldl f ((l.take i).foldl f x):=by rw [← List.foldl_append,List.take_append_drop]
 rw [e]; exact h _ _
def Sy.parF (x:Sy.Wr) (v:Sy.Vr):Sy.Wr:=Sy.closeW (Sy.openP [Sy.tyM v.ty,v.name] x)
def Sy.fldF (x:Sy.Wr) (v:Sy.Vr):Sy.Wr:=Sy.closeW (Sy.openP [Sy.tyM v.ty,v.name,Sy.decM v.num] x)
theorem Sy.parF_mono (x:Sy.Wr) (v:Sy.Vr):x.out.size≤(Sy.parF x v).out.size:=Nat.le_trans (Sy.openP_mono [Sy.tyM v.ty,v.name] x) (Sy.close_mono (Sy.openP [Sy.tyM v.ty,v.name] x))
theorem Sy.fldF_mono (x:Sy.Wr) (v:Sy.Vr):x.out.size≤(Sy.fldF x v).out.size:=Nat.le_trans (Sy.openP_mono [Sy.tyM v.ty,v.name,Sy.decM v.num] x) (Sy.close_mono (Sy.openP [Sy.tyM v.ty,v.name,Sy.decM v.num] x))
theorem own_max {w:World} {B:Nat} {e:TypeId} {z n:Nat} {v:Value} {xs:List Value} (h:w.ownsRow B e z v n xs):n≤9223372036854775807:=by
 rcases h.2 with ⟨_,h2⟩ | ⟨g,cap,cur,h1,h2,h3,h4,h5,_⟩
 · omega
 · unfold maxLen at h5; omega
theorem params_told (W B:Nat) (x:Sy.Wr) (w0 w:World) (va:Option Addr) (vc n:Nat) (vs:List Sy.Vr) (hW:WE w W B x) (hA:Agr B w0 w) (hr:RwD w0 (fun q=>q < B) 62 5 (.slice va n vc) n (vs.flatMap vrVals)) (hl:n=vs.length)
    (ho:vs.all (fun v=>Sy.okN v.ty.stars v.num)=true) (hb:(Sy.paramsW vs x).out.size≤BIG) :
    Calls Tryz.prog 59 #[.pointer (some ⟨W,0,none⟩),.slice va n vc] w (WrPost w W B (Sy.paramsW vs x)):=by
 have hM:Sy.paramsW vs x=Sy.closeW (vs.foldl Sy.parF (Sy.openP [] x)):=rfl
 rw [hM] at hb
 have HM:=zz hM
 have hb1:=Nat.le_trans (Sy.close_mono (vs.foldl Sy.parF (Sy.openP [] x))) hb
 have hb0:=Nat.le_trans (fold_le Sy.parF Sy.parF_mono vs 0 (Sy.openP [] x)) hb1
 rw [List.take_zero,List.foldl_nil] at hb0
 have HB0:=zz hb0
 have HSZ:=zz hb1
 have HBE:=zz hb
 have HWE:=zz hW
 have HAG:=zz hA
 have HRV:=zz hr
 have HL:=zz hl
 have hnb:=own_max hr.own
 have HOK:Hid (∀ (i:Nat) (y:Sy.Vr),vs[i]?=some y→Sy.okN y.ty.stars y.num=true):=zz (fun i y h=>List.all_eq_true.1 ho y (List.mem_of_getElem? h))
 clear hM hb hb0 hb1 hW hA hr hl ho
 go_enter Tryz.func59,Tryz.ntmps59
 go_wp2_with fail
 refine (open_any W B x [] (.slice none 0 0) w HWE.out ⟨by simp,.inl ⟨rfl,rfl⟩⟩ HB0.out).mono ?_
 rintro e' w1 ⟨rfl,hx⟩
 have HX0:=zz hx
 clear hx
 go_wp2_with fail
 go_loopg [10] n (fun gg u wr=>∃ i:Nat,u=.int .i64 (i:Int)∧i≤n∧gg=n - i∧Hid (WX w wr W B ((vs.take i).foldl Sy.parF (Sy.openP [] x))))
 case atStart=>exact ⟨0,rfl,by omega,by omega,HX0⟩
 case round =>
  obtain ⟨i,rfl,hi,rfl,HXR⟩:=hrel
  by_cases hlt:i < n
  · obtain ⟨y,hy⟩:∃ y,vs[i]?=some y:=⟨_,List.getElem?_eq_getElem (by have:=HL.out; omega)⟩
    have hlt1:(i:Int) < (n:Int):=by omega
    have how:=(HAG.out.wx HXR.out).own HRV.out
    obtain ⟨gv,hg⟩:∃ g,va=some ⟨g,0,none⟩:=by
     obtain ⟨aa,ca,e2,h2⟩:=own_form how
     obtain ⟨g,hg⟩:=h2 (by omega)
     injection e2 with e2
     exact ⟨g,e2.trans hg⟩
    subst hg
    have cy:=fun (j:Nat) (v:Value) (hj:(vrVals y)[j]?=some v)=>row_cell5 how hy hj
    have d0:wr.cell? ⟨gv,i * 5,none⟩=some (.string y.name):=cy 0 _ rfl
    have d1:wr.cell? ⟨gv,i * 5+1,none⟩=some (.string y.ty.base):=cy 1 _ rfl
    have d2:wr.cell? ⟨gv,i * 5+2,none⟩=some (.int .i64 y.ty.stars):=cy 2 _ rfl
    have d3:wr.cell? ⟨gv,i * 5+3,none⟩=some (.bool y.arr):=cy 3 _ rfl
    have d4:wr.cell? ⟨gv,i * 5+4,none⟩=some (.int .u64 y.num):=cy 4 _ rfl
    obtain ⟨xr,hxr⟩:∃ x',(vs.take i).foldl Sy.parF (Sy.openP [] x)=x':=⟨_,rfl⟩
    rw [hxr] at HXR
    have hoky:=HOK.out i y hy
    unfold Sy.okN at hoky
    rw [decide_eq_true_eq] at hoky
    obtain ⟨tt,htt⟩:∃ t,Sy.tyM ⟨y.ty.base,y.ty.stars⟩=t:=⟨_,rfl⟩
    have hstep:(vs.take (i+1)).foldl Sy.parF (Sy.openP [] x)=Sy.closeW (Sy.openP [tt,y.name] xr):=by
     rw [List.take_add_one,hy,List.foldl_append,hxr,← htt]; rfl
    have hbc:(Sy.closeW (Sy.openP [tt,y.name] xr)).out.size≤BIG:=by
     rw [← hstep]; exact Nat.le_trans (fold_le Sy.parF Sy.parF_mono vs (i+1) (Sy.openP [] x)) HSZ.out
    have hbo:=Nat.le_trans (Sy.close_mono (Sy.openP [tt,y.name] xr)) hbc
    have hts:=Sy.openP_mem [tt,y.name] xr tt (by simp)
    have HTX:=zz (fun W=>text_any y.ty.base y.ty.stars tt hoky.1 (by omega) (by
     have e:y.ty.base.size≤tt.size:=by rw [← htt]; show y.ty.base.size≤(y.ty.base++Sy.starL y.ty.stars.toNat).size; rw [ByteArray.size_append]; omega
     unfold BIG at hbo; omega) htt W)
    have HST:=zz hstep
    have HBC:=zz hbc
    have HBO:=zz hbo
    clear how cy hoky htt hstep hbc hbo hts hxr hy
    go_upto_region 4 with fail
    have hv:(wr.alloc (.cells #[.string y.name,.string y.ty.base,.int .i64 y.ty.stars,.bool y.arr,.int .u64 y.num] 62)).heap[wr.heap.size]?=some (.cells #[.string y.name,.string y.ty.base,.int .i64 y.ty.stars,.bool y.arr,.int .u64 y.num] 62 (0,0)):=heap_alloc_new _ _
    have hkv:Keeps No wr (wr.alloc (.cells #[.string y.name,.string y.ty.base,.int .i64 y.ty.stars,.bool y.arr,.int .u64 y.num] 62)):=(Keeps.refl _ _).alloc _
    generalize wr.alloc (.cells #[.string y.name,.string y.ty.base,.int .i64 y.ty.stars,.bool y.arr,.int .u64 y.num] 62)=w1 at hv hkv ⊢
    obtain ⟨V,hV⟩:∃ q,wr.heap.size=q:=⟨_,rfl⟩
    have hVW:V ≠ W:=by have:=HXR.out.p.bw.lt; omega
    rw [hV] at hv ⊢
    have HX1:=zz (HXR.out.no hkv)
    have hnu:¬ U8 w1 B W V:=fun e=>by
     rcases e with e | ⟨_,cs,f,e⟩
     · exact hVW e
     · rw [hv] at e; injection e with e; injection e with _ e _; exact absurd e (by decide)
    have p0:∀ u:KS (U8 w1 B W) w1,u.W.cell? ⟨V,0,none⟩=some (.string y.name):=fun u=>u.cell (by rw [cell_of_row w1 V 0 _ _ _ hv]; rfl) hnu
    have p1:∀ u:KS (U8 w1 B W) w1,u.W.cell? ⟨V,1,none⟩=some (.string y.ty.base):=fun u=>u.cell (by rw [cell_of_row w1 V 1 _ _ _ hv]; rfl) hnu
    have p2:∀ u:KS (U8 w1 B W) w1,u.W.cell? ⟨V,2,none⟩=some (.int .i64 y.ty.stars):=fun u=>u.cell (by rw [cell_of_row w1 V 2 _ _ _ hv]; rfl) hnu
    have p4:∀ u:KS (U8 w1 B W) w1,u.W.cell? ⟨V,4,none⟩=some (.int .u64 y.num):=fun u=>u.cell (by rw [cell_of_row w1 V 4 _ _ _ hv]; rfl) hnu
    have hne:Nonempty (KS (U8 w1 B W) w1):=⟨⟨w1,Keeps.refl _ _⟩⟩
    clear hv hkv hV hVW hnu d0 d1 d2 d3 d4
    refine Mix.wp_region_mix (fun W'=>∃ u:KS (U8 w1 B W) w1,W'=u.W) [] (by kernel_rfl) ?_
    have HKv0:Hid (Keeps No w1 w1.drew):=zz ((Keeps.refl _ w1).drew)
    generalize w1.drew=v0 at HKv0 ⊢
    refine Mix.mix_seg 0 3 5 (by kernel_rfl) (by kernel_rfl) rfl rfl ⟨⟨v0,HKv0.out.mono (fun _ _ e=>e.elim)⟩,rfl⟩ ?_
    simp only [List.drop_succ_cons,List.drop_zero,List.take_succ_cons,List.take_zero]
    repeat (go_big_quiet_step (fail))
    refine wpQuiet_nil ?_
    refine Mix.mix_seg 4 2 3 (by kernel_rfl) (by kernel_rfl) rfl rfl ⟨⟨v0,HKv0.out.mono (fun _ _ e=>e.elim)⟩,rfl⟩ ?_
    simp only [List.drop_succ_cons,List.drop_zero,List.take_succ_cons,List.take_zero]
    repeat (go_big_quiet_step (fail))
    refine wpQuiet_nil ?_
    clear p0 p1 p2 p4
    refine Mix.mix_one 3 2 (by kernel_rfl) rfl rfl ?_
    simp only [List.drop_succ_cons,List.drop_zero,List.take_succ_cons,List.take_zero]
    go_wp2_with fail
    refine (HTX.out v0).mono ?_
    rintro e' v1 ⟨rfl,hk⟩
    have HKv1:Hid (Keeps No w1 v1):=zz (HKv0.out.trans hk (fun _ _ e=>e))
    clear hk
    go_wp2_with fail
    refine ⟨.inr ⟨⟨v1,HKv1.out.mono (fun _ _ e=>e.elim)⟩,rfl⟩,?_⟩
    refine Mix.mix_one 6 1 (by kernel_rfl) rfl rfl ?_
    simp only [List.drop_succ_cons,List.drop_zero,List.take_succ_cons,List.take_zero]
    go_wp2_with fail
    have hk3:Keeps No v1 (v1.alloc (.cells #[.string tt,.string y.name] 9)):=(Keeps.refl _ _).alloc _
    have hp3:(v1.alloc (.cells #[.string tt,.string y.name] 9)).heap[v1.heap.size]?=some (.cells #[.string tt,.string y.name] 9 (0,0)):=heap_alloc_new _ _
    have hne3:v1.heap.size ≠ W:=by have:=HX1.out.p.bw.lt; have:=HKv1.out.size; omega
    generalize v1.alloc (.cells #[.string tt,.string y.name] 9)=v3 at hk3 hp3 ⊢
    have HKv3:Hid (Keeps No w1 v3):=zz (HKv1.out.trans hk3 (fun _ _ e=>e))
    have HPT:Hid (Pts v3 W (.slice (some ⟨v1.heap.size,0,none⟩) 2 2) [tt,y.name]):=zz ⟨by simp,.inr ⟨v1.heap.size,rfl,hp3,hne3⟩⟩
    clear hk3 hp3 hne3
    refine ⟨.inr ⟨⟨v3,HKv3.out.mono (fun _ _ e=>e.elim)⟩,rfl⟩,?_⟩
    refine Mix.mix_one 7 0 (by kernel_rfl) rfl rfl ?_
    simp only [List.drop_succ_cons,List.drop_zero,List.take_succ_cons,List.take_zero]
    go_wp2_with fail
    refine (open_any W B xr [tt,y.name] _ v3 (HX1.out.p.no HKv3.out) HPT.out HBO.out).mono ?_
    rintro e' v4 ⟨rfl,hx⟩
    have hx2:=WX.after HKv3.out hx
    have HX4:=zz (HX1.out.trans hx2)
    have HC4:=zz hx2.k
    clear hx hx2
    go_wp2_with fail
    refine ⟨.inr ⟨⟨v4,HC4.out⟩,rfl⟩,?_⟩
    refine Mix.mix_end (by kernel_rfl) ?_
    clear hne
    go_wp2_with fail
    refine (close_any W B _ v4 HX4.out.p HBC.out).mono ?_
    rintro e' v5 ⟨rfl,hx⟩
    have HX5:Hid (WX w v5 W B ((vs.take (i+1)).foldl Sy.parF (Sy.openP [] x))):=zz (by rw [HST.out]; exact HX4.out.trans hx)
    clear hx
    go_wp2_with fail
    go_roundg (n - (i+1))
    case rel=>exact ⟨i+1,by go_num,by omega,rfl,HX5⟩
    case measure=>omega
  · have hlt1:¬ (i:Int) < (n:Int):=by omega
    have HXE:Hid (WX w wr W B (vs.foldl Sy.parF (Sy.openP [] x))):=zz (by
     have e:=HXR.out
     rw [List.take_of_length_le (by have:=HL.out; omega)] at e
     exact e)
    clear HXR
    go_wp2_with fail
    refine (close_any W B _ wr HXE.out.p HBE.out).mono ?_
    rintro e' w9 ⟨rfl,hx⟩
    have HX9:=zz (HXE.out.trans hx)
    clear hx
    go_wp2_with fail
    go_returns
    exact ⟨rfl,by rw [HM.out]; exact HX9.out⟩
theorem init_no (W B:Nat) (x:Sy.Wr) (w0 w:World) (N:Nat) (kd at_:Int) (v:Sy.Vr) (vv vt:Value) (pb pi la:Option Addr) (n lc:Nat) (init:Option Sy.Ex) (hW:WE w W B x) (hA:Agr B w0 w) (hN:N < B)
    (hr:w0.heap[N]?=some (.cells (itRow kd at_ v vv vt pb pi (.slice la n lc) false) 69 (0,0))) (hi:Told 99 W B w0 pi (Sy.optW init)) (hb:(Sy.optW init x).out.size≤BIG) :
    Calls Tryz.prog 61 #[.pointer (some ⟨W,0,none⟩),.pointer (some ⟨N,0,none⟩)] w (WrPost w W B (Sy.optW init x)):=by
 have HC:=zz (hi w x hA hW hb)
 have hr:=hA.row hr hN
 have c12:w.cell? ⟨N,12,none⟩=some (.bool false):=by rw [cell_of_row w N 12 _ _ _ hr]; rfl
 have c10:w.cell? ⟨N,10,none⟩=some (.pointer pi):=by rw [cell_of_row w N 10 _ _ _ hr]; rfl
 clear hr hi hW hA hN hb
 go_enter Tryz.func61,Tryz.ntmps61
 go_wp2_with fail
 refine HC.out.mono ?_
 rintro e' w1 ⟨rfl,hx⟩
 have HX:=zz hx
 clear hx
 go_wp2_with fail
 go_returns
 exact ⟨rfl,HX.out⟩
theorem init_yes (W B:Nat) (x:Sy.Wr) (w0 w:World) (N:Nat) (kd at_:Int) (v:Sy.Vr) (vv vt:Value) (pb pi la:Option Addr) (n lc:Nat) (es:List Sy.Ex) (hW:WE w W B x) (hA:Agr B w0 w) (hN:N < B)
    (hr:w0.heap[N]?=some (.cells (itRow kd at_ v vv vt pb pi (.slice la n lc) true) 69 (0,0))) (hE:∀ (w2:World) (y:Sy.Wr),Agr B w0 w2→WE w2 W B y→(Sy.exsW es y).out.size≤BIG→Calls Tryz.prog 100 #[.pointer (some ⟨W,0,none⟩),.slice la n lc] w2 (WrPost w2 W B (Sy.exsW es y))) (hb:(Sy.closeW (Sy.exsW es (Sy.openP [⟨#[108,105,115,116]⟩] x))).out.size≤BIG) :
    Calls Tryz.prog 61 #[.pointer (some ⟨W,0,none⟩),.pointer (some ⟨N,0,none⟩)] w (WrPost w W B (Sy.closeW (Sy.exsW es (Sy.openP [⟨#[108,105,115,116]⟩] x)))):=by
 have hb2:=Nat.le_trans (Sy.close_mono (Sy.exsW es (Sy.openP [⟨#[108,105,115,116]⟩] x))) hb
 have hb1:=Nat.le_trans (Sy.exs_mono es (Sy.openP [⟨#[108,105,115,116]⟩] x)) hb2
 have HB1:=zz hb1
 have HB2:=zz hb2
 have HB3:=zz hb
 have HWE:=zz hW
 have HAG:=zz hA
 have HNB:=zz hN
 have HRW:=zz hr
 have HEX:=zz hE
 have hr:=hA.row hr hN
 have c12:w.cell? ⟨N,12,none⟩=some (.bool true):=by rw [cell_of_row w N 12 _ _ _ hr]; rfl
 clear hr hE hW hA hN hb hb1 hb2
 go_enter Tryz.func61,Tryz.ntmps61
 have hk3:Keeps No w (w.alloc (.cells #[.string ⟨#[108,105,115,116]⟩] 9)):=(Keeps.refl _ _).alloc _
 have hp3:(w.alloc (.cells #[.string ⟨#[108,105,115,116]⟩] 9)).heap[w.heap.size]?=some (.cells #[.string ⟨#[108,105,115,116]⟩] 9 (0,0)):=heap_alloc_new _ _
 have hne3:w.heap.size ≠ W:=by have:=HWE.out.bw.lt; omega
 have HKv3:=zz hk3
 have HPT:Hid (Pts (w.alloc (.cells #[.string ⟨#[108,105,115,116]⟩] 9)) W (.slice (some ⟨w.heap.size,0,none⟩) 1 1) [⟨#[108,105,115,116]⟩]):=zz ⟨by simp,.inr ⟨w.heap.size,rfl,hp3,hne3⟩⟩
 clear hk3 hp3 hne3
 go_wp2_with fail
 refine (open_any W B x [⟨#[108,105,115,116]⟩] _ _ (HWE.out.no HKv3.out) HPT.out HB1.out).mono ?_
 rintro e' w1 ⟨rfl,hx⟩
 have HX1:=zz (WX.after HKv3.out hx)
 clear hx c12
 have HA1:=zz (HAG.out.wx HX1.out)
 have hr:=HA1.out.row HRW.out HNB.out
 have c11:w1.cell? ⟨N,11,none⟩=some (.slice la n lc):=by rw [cell_of_row w1 N 11 _ _ _ hr]; rfl
 clear hr
 go_wp2_with fail
 refine (HEX.out w1 _ HA1.out HX1.out.p HB2.out).mono ?_
 rintro e' w2 ⟨rfl,hx⟩
 have HX2:=zz (HX1.out.trans hx)
 clear hx c11
 go_wp2_with fail
 refine (close_any W B _ w2 HX2.out.p HB3.out).mono ?_
 rintro e' w3 ⟨rfl,hx⟩
 have HX3:=zz (HX2.out.trans hx)
 clear hx
 go_wp2_with fail
 go_returns
 exact ⟨rfl,HX3.out⟩
theorem it_k1 (W B:Nat) (x:Sy.Wr) (w0 w:World) (N:Nat) (at_:Int) (nm tb:ByteArray) (ts nu:Int) (ar:Bool) (vv vt vl:Value) (pb pi:Option Addr) (ls:Bool) (va_:List Sy.Vr) (ty_:List Sy.Ty) (bo:Option Sy.Sm) (ini:Option Sy.Ex) (li:List Sy.Ex) (va:Option Addr) (vc n:Nat) (vs:List Sy.Vr) (hW:WE w W B x) (hA:Agr B w0 w) (hN:N < B)
    (hr:w0.heap[N]?=some (.cells (itRow 1 at_ ⟨nm,⟨tb,ts⟩,ar,nu⟩ (.slice va n vc) vt pb pi vl ls) 69 (0,0)))
    (hv:RwD w0 (fun q=>q < B) 62 5 (.slice va n vc) n (vs.flatMap vrVals)) (hl:n=vs.length) (hvo:vs.all (fun v=>Sy.okN v.ty.stars v.num)=true) (hbt:tb.size≤1000000000000) (ho:Sy.okN ts nu=true) (hb:(Sy.itW ⟨1,at_,⟨nm,⟨tb,ts⟩,ar,nu⟩,vs,ty_,bo,ini,li,ls⟩ x).out.size≤BIG) :
    Calls Tryz.prog 31 #[.pointer (some ⟨W,0,none⟩),.pointer (some ⟨N,0,none⟩)] w (WrPost w W B (Sy.itW ⟨1,at_,⟨nm,⟨tb,ts⟩,ar,nu⟩,vs,ty_,bo,ini,li,ls⟩ x)):=by
 obtain ⟨tt,htt⟩:∃ t,Sy.tyM ⟨tb,ts⟩=t:=⟨_,rfl⟩
 have hM:Sy.itW ⟨1,at_,⟨nm,⟨tb,ts⟩,ar,nu⟩,vs,ty_,bo,ini,li,ls⟩ x=Sy.closeW (vs.foldl Sy.fldF (Sy.openP [⟨#[115,116,114,117,99,116]⟩,nm] x)):=by
  rfl
 rw [hM] at hb
 have HM:=zz hM
 have HBC:=zz hb
 have hb1:=Nat.le_trans (Sy.close_mono (vs.foldl Sy.fldF (Sy.openP [⟨#[115,116,114,117,99,116]⟩,nm] x))) hb
 have hb0:=Nat.le_trans (fold_le Sy.fldF Sy.fldF_mono vs 0 (Sy.openP [⟨#[115,116,114,117,99,116]⟩,nm] x)) hb1
 have HB0:=zz hb0
 have HB1:=zz hb1
 have HWE:=zz hW
 have HAG:=zz hA
 have HNB:=zz hN
 have HRW:=zz hr
 have HRV:=zz hv
 have HL:=zz hl
 have hnb:=own_max hv.own
 have HOK:Hid (∀ (i:Nat) (y:Sy.Vr),vs[i]?=some y→Sy.okN y.ty.stars y.num=true):=zz (fun i y h=>List.all_eq_true.1 hvo y (List.mem_of_getElem? h))
 rw [List.take_zero,List.foldl_nil] at hb0
 have HB0:=zz hb0
 have HSZ:=HB1
 unfold Sy.okN at ho
 rw [decide_eq_true_eq] at ho
 have HTZ:Hid (tb.size≤1000000000000):=zz hbt
 have HTX:=zz (fun W=>text_any tb ts tt ho.1 (by omega) HTZ.out htt W)
 have hr:=hA.row hr hN
 have p2:∀ u:KW w,u.W.cell? ⟨N,2,none⟩=some (.string nm):=fun u=>u.cell (by rw [cell_of_row w N 2 _ _ _ hr]; rfl)
 have p3:∀ u:KW w,u.W.cell? ⟨N,3,none⟩=some (.string tb):=fun u=>u.cell (by rw [cell_of_row w N 3 _ _ _ hr]; rfl)
 have p4:∀ u:KW w,u.W.cell? ⟨N,4,none⟩=some (.int .i64 ts):=fun u=>u.cell (by rw [cell_of_row w N 4 _ _ _ hr]; rfl)
 have hne:Nonempty (KW w):=⟨KW.of _⟩
 clear hM hb hb0 hb1 hW hA hN hr ho htt hv hl hvo hbt
 go_enter Tryz.func31,Tryz.ntmps31
 go_wp2_with fail
 refine wp_region_class (C:=fun W=>∃ u:KW w,W=u.W) (by kernel_rfl) (by kernel_rfl) ⟨⟨World.drew _,(Keeps.refl _ _).drew⟩,rfl⟩ ?_
 repeat (go_big_quiet_step (first | (go_at_call 54; with_reducible refine kw_call _ (HTX.out _))))
 refine wpQuiet_nil ?_
 rintro _ ⟨T,rfl⟩
 obtain ⟨v0,hv0⟩:∃ W,T.W=W:=⟨_,rfl⟩
 have HKv0:Hid (Keeps No w v0):=zz (by rw [← hv0]; exact T.h)
 rw [hv0]
 clear p2 p3 p4 hne hv0 T
 have hr:=(HAG.out.no HKv0.out).row HRW.out HNB.out
 have c0:v0.cell? ⟨N,0,none⟩=some (.int .i64 1):=by rw [cell_of_row v0 N 0 _ _ _ hr]; rfl
 clear hr
 have hk3:Keeps No v0 (v0.alloc (.cells #[.string ⟨#[115,116,114,117,99,116]⟩,.string nm] 9)):=(Keeps.refl _ _).alloc _
 have hp3:(v0.alloc (.cells #[.string ⟨#[115,116,114,117,99,116]⟩,.string nm] 9)).heap[v0.heap.size]?=some (.cells #[.string ⟨#[115,116,114,117,99,116]⟩,.string nm] 9 (0,0)):=heap_alloc_new _ _
 have hne3:v0.heap.size ≠ W:=by have:=HWE.out.bw.lt; have:=HKv0.out.size; omega
 have HKv3:Hid (Keeps No w (v0.alloc (.cells #[.string ⟨#[115,116,114,117,99,116]⟩,.string nm] 9))):=zz (HKv0.out.trans hk3 (fun _ _ e=>e))
 have HPT:Hid (Pts (v0.alloc (.cells #[.string ⟨#[115,116,114,117,99,116]⟩,.string nm] 9)) W (.slice (some ⟨v0.heap.size,0,none⟩) 2 2) [⟨#[115,116,114,117,99,116]⟩,nm]):=zz ⟨by simp,.inr ⟨v0.heap.size,rfl,hp3,hne3⟩⟩
 clear hk3 hp3 hne3
 go_wp2_with fail
 refine (open_any W B x [⟨#[115,116,114,117,99,116]⟩,nm] _ _ (HWE.out.no HKv3.out) HPT.out HB0.out).mono ?_
 rintro e' w1 ⟨rfl,hx⟩
 have HX0:=zz (WX.after HKv3.out hx)
 clear hx c0
 have HA0:=zz (HAG.out.wx HX0.out)
 have hr:=HA0.out.row HRW.out HNB.out
 have c7:w1.cell? ⟨N,7,none⟩=some (.slice va n vc):=by rw [cell_of_row w1 N 7 _ _ _ hr]; rfl
 clear hr
 go_wp2_with fail
 clear c7
 go_loopg [36] n (fun gg u wr=>∃ i:Nat,u=.int .i64 (i:Int)∧i≤n∧gg=n - i∧Hid (WX w wr W B ((vs.take i).foldl Sy.fldF (Sy.openP [⟨#[115,116,114,117,99,116]⟩,nm] x))))
 case atStart=>exact ⟨0,rfl,by omega,by omega,HX0⟩
 case round =>
  obtain ⟨i,rfl,hi,rfl,HXR⟩:=hrel
  by_cases hlt:i < n
  · obtain ⟨y,hy⟩:∃ y,vs[i]?=some y:=⟨_,List.getElem?_eq_getElem (by have:=HL.out; omega)⟩
    have hlt1:(i:Int) < (n:Int):=by omega
    have how:=(HAG.out.wx HXR.out).own HRV.out
    obtain ⟨gv,hg⟩:∃ g,va=some ⟨g,0,none⟩:=by
     obtain ⟨aa,ca,e2,h2⟩:=own_form how
     obtain ⟨g,hg⟩:=h2 (by omega)
     injection e2 with e2
     exact ⟨g,e2.trans hg⟩
    subst hg
    have cy:=fun (j:Nat) (v:Value) (hj:(vrVals y)[j]?=some v)=>row_cell5 how hy hj
    have d0:wr.cell? ⟨gv,i * 5,none⟩=some (.string y.name):=cy 0 _ rfl
    have d1:wr.cell? ⟨gv,i * 5+1,none⟩=some (.string y.ty.base):=cy 1 _ rfl
    have d2:wr.cell? ⟨gv,i * 5+2,none⟩=some (.int .i64 y.ty.stars):=cy 2 _ rfl
    have d3:wr.cell? ⟨gv,i * 5+3,none⟩=some (.bool y.arr):=cy 3 _ rfl
    have d4:wr.cell? ⟨gv,i * 5+4,none⟩=some (.int .u64 y.num):=cy 4 _ rfl
    obtain ⟨xr,hxr⟩:∃ x',(vs.take i).foldl Sy.fldF (Sy.openP [⟨#[115,116,114,117,99,116]⟩,nm] x)=x':=⟨_,rfl⟩
    rw [hxr] at HXR
    have hoky:=HOK.out i y hy
    unfold Sy.okN at hoky
    rw [decide_eq_true_eq] at hoky
    obtain ⟨tt,htt⟩:∃ t,Sy.tyM ⟨y.ty.base,y.ty.stars⟩=t:=⟨_,rfl⟩
    obtain ⟨dn,hdn⟩:∃ t,Sy.decM y.num=t:=⟨_,rfl⟩
    have hstep:(vs.take (i+1)).foldl Sy.fldF (Sy.openP [⟨#[115,116,114,117,99,116]⟩,nm] x)=Sy.closeW (Sy.openP [tt,y.name,dn] xr):=by
     rw [List.take_add_one,hy,List.foldl_append,hxr,← htt,← hdn]; rfl
    have hbc:(Sy.closeW (Sy.openP [tt,y.name,dn] xr)).out.size≤BIG:=by
     rw [← hstep]; exact Nat.le_trans (fold_le Sy.fldF Sy.fldF_mono vs (i+1) (Sy.openP [⟨#[115,116,114,117,99,116]⟩,nm] x)) HSZ.out
    have hbo:=Nat.le_trans (Sy.close_mono (Sy.openP [tt,y.name,dn] xr)) hbc
    have hts:=Sy.openP_mem [tt,y.name,dn] xr tt (by simp)
    have HTX:=zz (fun W=>text_any y.ty.base y.ty.stars tt hoky.1 (by omega) (by
     have e:y.ty.base.size≤tt.size:=by rw [← htt]; show y.ty.base.size≤(y.ty.base++Sy.starL y.ty.stars.toNat).size; rw [ByteArray.size_append]; omega
     unfold BIG at hbo; omega) htt W)
    have HDC:=zz (fun W hl=>decimal_any y.num dn hoky.2.2.1 hoky.2.2.2 hdn W hl)
    have HST:=zz hstep
    have HBC:=zz hbc
    have HBO:=zz hbo
    clear how cy hoky htt hdn hstep hbc hbo hts hxr hy
    go_upto_region 7 with fail
    have hv:(wr.alloc (.cells #[.string y.name,.string y.ty.base,.int .i64 y.ty.stars,.bool y.arr,.int .u64 y.num] 62)).heap[wr.heap.size]?=some (.cells #[.string y.name,.string y.ty.base,.int .i64 y.ty.stars,.bool y.arr,.int .u64 y.num] 62 (0,0)):=heap_alloc_new _ _
    have hkv:Keeps No wr (wr.alloc (.cells #[.string y.name,.string y.ty.base,.int .i64 y.ty.stars,.bool y.arr,.int .u64 y.num] 62)):=(Keeps.refl _ _).alloc _
    generalize wr.alloc (.cells #[.string y.name,.string y.ty.base,.int .i64 y.ty.stars,.bool y.arr,.int .u64 y.num] 62)=w1 at hv hkv ⊢
    obtain ⟨V,hV⟩:∃ q,wr.heap.size=q:=⟨_,rfl⟩
    have hVW:V ≠ W:=by have:=HXR.out.p.bw.lt; omega
    rw [hV] at hv ⊢
    have HX1:=zz (HXR.out.no hkv)
    have hnu:¬ U8 w1 B W V:=fun e=>by
     rcases e with e | ⟨_,cs,f,e⟩
     · exact hVW e
     · rw [hv] at e; injection e with e; injection e with _ e _; exact absurd e (by decide)
    have p0:∀ u:KS (U8 w1 B W) w1,u.W.cell? ⟨V,0,none⟩=some (.string y.name):=fun u=>u.cell (by rw [cell_of_row w1 V 0 _ _ _ hv]; rfl) hnu
    have p1:∀ u:KS (U8 w1 B W) w1,u.W.cell? ⟨V,1,none⟩=some (.string y.ty.base):=fun u=>u.cell (by rw [cell_of_row w1 V 1 _ _ _ hv]; rfl) hnu
    have p2:∀ u:KS (U8 w1 B W) w1,u.W.cell? ⟨V,2,none⟩=some (.int .i64 y.ty.stars):=fun u=>u.cell (by rw [cell_of_row w1 V 2 _ _ _ hv]; rfl) hnu
    have p4:∀ u:KS (U8 w1 B W) w1,u.W.cell? ⟨V,4,none⟩=some (.int .u64 y.num):=fun u=>u.cell (by rw [cell_of_row w1 V 4 _ _ _ hv]; rfl) hnu
    have hne:Nonempty (KS (U8 w1 B W) w1):=⟨⟨w1,Keeps.refl _ _⟩⟩
    clear hv hkv hV hVW hnu d0 d1 d2 d3 d4
    refine Mix.wp_region_mix (fun W'=>∃ u:KS (U8 w1 B W) w1,W'=u.W) [] (by kernel_rfl) ?_
    have HKv0:Hid (Keeps No w1 w1.drew):=zz ((Keeps.refl _ w1).drew)
    generalize w1.drew=v0 at HKv0 ⊢
    refine Mix.mix_seg 0 3 8 (by kernel_rfl) (by kernel_rfl) rfl rfl ⟨⟨v0,HKv0.out.mono (fun _ _ e=>e.elim)⟩,rfl⟩ ?_
    simp only [List.drop_succ_cons,List.drop_zero,List.take_succ_cons,List.take_zero]
    repeat (go_big_quiet_step (fail))
    refine wpQuiet_nil ?_
    refine Mix.mix_seg 4 4 4 (by kernel_rfl) (by kernel_rfl) rfl rfl ⟨⟨v0,HKv0.out.mono (fun _ _ e=>e.elim)⟩,rfl⟩ ?_
    simp only [List.drop_succ_cons,List.drop_zero,List.take_succ_cons,List.take_zero]
    repeat (go_big_quiet_step (fail))
    refine wpQuiet_nil ?_
    clear p0 p1 p2 p4
    refine Mix.mix_one 3 3 (by kernel_rfl) rfl rfl ?_
    simp only [List.drop_succ_cons,List.drop_zero,List.take_succ_cons,List.take_zero]
    go_wp2_with fail
    refine (HTX.out v0).mono ?_
    rintro e' v1 ⟨rfl,hk⟩
    have HKv1:Hid (Keeps No w1 v1):=zz (HKv0.out.trans hk (fun _ _ e=>e))
    clear hk
    go_wp2_with fail
    refine ⟨.inr ⟨⟨v1,HKv1.out.mono (fun _ _ e=>e.elim)⟩,rfl⟩,?_⟩
    refine Mix.mix_one 8 2 (by kernel_rfl) rfl rfl ?_
    simp only [List.drop_succ_cons,List.drop_zero,List.take_succ_cons,List.take_zero]
    go_wp2_with fail
    refine (HDC.out v1 (HX1.out.p.lp.no HKv1.out)).mono ?_
    rintro e' v2 ⟨rfl,hk⟩
    have HKv2:Hid (Keeps No w1 v2):=zz (HKv1.out.trans hk (fun _ _ e=>e))
    clear hk
    go_wp2_with fail
    refine ⟨.inr ⟨⟨v2,HKv2.out.mono (fun _ _ e=>e.elim)⟩,rfl⟩,?_⟩
    refine Mix.mix_one 9 1 (by kernel_rfl) rfl rfl ?_
    simp only [List.drop_succ_cons,List.drop_zero,List.take_succ_cons,List.take_zero]
    go_wp2_with fail
    have hk3:Keeps No v2 (v2.alloc (.cells #[.string tt,.string y.name,.string dn] 9)):=(Keeps.refl _ _).alloc _
    have hp3:(v2.alloc (.cells #[.string tt,.string y.name,.string dn] 9)).heap[v2.heap.size]?=some (.cells #[.string tt,.string y.name,.string dn] 9 (0,0)):=heap_alloc_new _ _
    have hne3:v2.heap.size ≠ W:=by have:=HX1.out.p.bw.lt; have:=HKv2.out.size; omega
    generalize v2.alloc (.cells #[.string tt,.string y.name,.string dn] 9)=v3 at hk3 hp3 ⊢
    have HKv3:Hid (Keeps No w1 v3):=zz (HKv2.out.trans hk3 (fun _ _ e=>e))
    have HPT:Hid (Pts v3 W (.slice (some ⟨v2.heap.size,0,none⟩) 3 3) [tt,y.name,dn]):=zz ⟨by simp,.inr ⟨v2.heap.size,rfl,hp3,hne3⟩⟩
    clear hk3 hp3 hne3
    refine ⟨.inr ⟨⟨v3,HKv3.out.mono (fun _ _ e=>e.elim)⟩,rfl⟩,?_⟩
    refine Mix.mix_one 10 0 (by kernel_rfl) rfl rfl ?_
    simp only [List.drop_succ_cons,List.drop_zero,List.take_succ_cons,List.take_zero]
    go_wp2_with fail
    refine (open_any W B xr [tt,y.name,dn] _ v3 (HX1.out.p.no HKv3.out) HPT.out HBO.out).mono ?_
    rintro e' v4 ⟨rfl,hx⟩
    have hx2:=WX.after HKv3.out hx
    have HX4:=zz (HX1.out.trans hx2)
    have HC4:=zz hx2.k
    clear hx hx2
    go_wp2_with fail
    refine ⟨.inr ⟨⟨v4,HC4.out⟩,rfl⟩,?_⟩
    refine Mix.mix_end (by kernel_rfl) ?_
    clear hne
    go_wp2_with fail
    refine (close_any W B _ v4 HX4.out.p HBC.out).mono ?_
    rintro e' v5 ⟨rfl,hx⟩
    have HX5:Hid (WX w v5 W B ((vs.take (i+1)).foldl Sy.fldF (Sy.openP [⟨#[115,116,114,117,99,116]⟩,nm] x))):=zz (by rw [HST.out]; exact HX4.out.trans hx)
    clear hx
    go_wp2_with fail
    go_roundg (n - (i+1))
    case rel=>exact ⟨i+1,by go_num,by omega,rfl,HX5⟩
    case measure=>omega
  · have hlt1:¬ (i:Int) < (n:Int):=by omega
    have HXE:Hid (WX w wr W B (vs.foldl Sy.fldF (Sy.openP [⟨#[115,116,114,117,99,116]⟩,nm] x))):=zz (by
     have e:=HXR.out
     rw [List.take_of_length_le (by have:=HL.out; omega)] at e
     exact e)
    clear HXR
    go_wp2_with fail
    refine (close_any W B (vs.foldl Sy.fldF (Sy.openP [⟨#[115,116,114,117,99,116]⟩,nm] x)) wr HXE.out.p HBC.out).mono ?_
    rintro e' z9 ⟨rfl,hx⟩
    have HX9:=zz (HXE.out.trans hx)
    clear hx
    go_wp2_with fail
    go_returns
    exact ⟨rfl,by rw [HM.out]; exact HX9.out⟩
def Sy.tyF (x:Sy.Wr) (t:Sy.Ty):Sy.Wr:=Sy.partW (Sy.tyM t) x
theorem Sy.tyF_mono (x:Sy.Wr) (v:Sy.Ty):x.out.size≤(Sy.tyF x v).out.size:=Sy.part_mono (Sy.tyM v) x
theorem it_k2 (W B:Nat) (x:Sy.Wr) (w0 w:World) (N:Nat) (at_:Int) (nm tb:ByteArray) (ts nu:Int) (ar:Bool) (vv vt vl:Value) (pb pi:Option Addr) (ls:Bool) (va_:List Sy.Vr) (ty_:List Sy.Ty) (bo:Option Sy.Sm) (ini:Option Sy.Ex) (li:List Sy.Ex) (ta:Option Addr) (tc n:Nat) (ys:List Sy.Ty) (hW:WE w W B x) (hA:Agr B w0 w) (hN:N < B)
    (hr:w0.heap[N]?=some (.cells (itRow 2 at_ ⟨nm,⟨tb,ts⟩,ar,nu⟩ vv (.slice ta n tc) pb pi vl ls) 69 (0,0)))
    (hv:RwD w0 (fun q=>q < B) 60 2 (.slice ta n tc) n (ys.flatMap tyVals)) (hl:n=ys.length) (hvo:ys.all (fun t=>Sy.okN t.stars 0)=true) (ho:Sy.okN ts nu=true) (hb:(Sy.itW ⟨2,at_,⟨nm,⟨tb,ts⟩,ar,nu⟩,va_,ys,bo,ini,li,ls⟩ x).out.size≤BIG) :
    Calls Tryz.prog 31 #[.pointer (some ⟨W,0,none⟩),.pointer (some ⟨N,0,none⟩)] w (WrPost w W B (Sy.itW ⟨2,at_,⟨nm,⟨tb,ts⟩,ar,nu⟩,va_,ys,bo,ini,li,ls⟩ x)):=by
 obtain ⟨tt,htt⟩:∃ t,Sy.tyM ⟨tb,ts⟩=t:=⟨_,rfl⟩
 have hM:Sy.itW ⟨2,at_,⟨nm,⟨tb,ts⟩,ar,nu⟩,va_,ys,bo,ini,li,ls⟩ x=Sy.closeW (Sy.closeW (ys.foldl Sy.tyF (Sy.openP [] (Sy.openP [⟨#[116,121,112,101,100,101,102]⟩,tt,nm] x)))):=by
  rw [← htt]; rfl
 rw [hM] at hb
 have HM:=zz hM
 have HBC:=zz hb
 have hb3:=Nat.le_trans (Sy.close_mono (Sy.closeW (ys.foldl Sy.tyF (Sy.openP [] (Sy.openP [⟨#[116,121,112,101,100,101,102]⟩,tt,nm] x))))) hb
 have hb2:=Nat.le_trans (Sy.close_mono (ys.foldl Sy.tyF (Sy.openP [] (Sy.openP [⟨#[116,121,112,101,100,101,102]⟩,tt,nm] x)))) hb3
 have hb1:=Nat.le_trans (fold_le Sy.tyF Sy.tyF_mono ys 0 (Sy.openP [] (Sy.openP [⟨#[116,121,112,101,100,101,102]⟩,tt,nm] x))) hb2
 have hb0:=Nat.le_trans (Sy.openP_mono [] (Sy.openP [⟨#[116,121,112,101,100,101,102]⟩,tt,nm] x)) (by have e:=hb1; rw [List.take_zero,List.foldl_nil] at e; exact e)
 have HB0:=zz hb0
 have HB1:=zz hb1
 have HB2:=zz hb2
 have HB3:=zz hb3
 have HWE:=zz hW
 have HAG:=zz hA
 have HNB:=zz hN
 have HRW:=zz hr
 have HRV:=zz hv
 have HL:=zz hl
 have hnb:=own_max hv.own
 have HOK:Hid (∀ (i:Nat) (y:Sy.Ty),ys[i]?=some y→Sy.okN y.stars 0=true):=zz (fun i y h=>List.all_eq_true.1 hvo y (List.mem_of_getElem? h))
 have hb1':=hb1
 rw [List.take_zero,List.foldl_nil] at hb1'
 have HB1:=zz hb1'
 clear hb1'
 have hb0':=Nat.le_trans (Sy.openP_mono [] (Sy.openP [⟨#[116,121,112,101,100,101,102]⟩,tt,nm] x)) HB1.out
 have HB0:=zz hb0'
 clear hb0'
 have HSZ:=HB2
 unfold Sy.okN at ho
 rw [decide_eq_true_eq] at ho
 have HTZ:Hid (tb.size≤1000000000000):=zz (by
  have hts:=Sy.openP_mem [⟨#[116,121,112,101,100,101,102]⟩,tt,nm] x tt (by simp)
  have e:tb.size≤tt.size:=by rw [← htt]; show tb.size≤(tb++Sy.starL ts.toNat).size; rw [ByteArray.size_append]; omega
  unfold BIG at hb0; omega)
 have HTX:=zz (fun W=>text_any tb ts tt ho.1 (by omega) HTZ.out htt W)
 have hr:=hA.row hr hN
 have p2:∀ u:KW w,u.W.cell? ⟨N,2,none⟩=some (.string nm):=fun u=>u.cell (by rw [cell_of_row w N 2 _ _ _ hr]; rfl)
 have p3:∀ u:KW w,u.W.cell? ⟨N,3,none⟩=some (.string tb):=fun u=>u.cell (by rw [cell_of_row w N 3 _ _ _ hr]; rfl)
 have p4:∀ u:KW w,u.W.cell? ⟨N,4,none⟩=some (.int .i64 ts):=fun u=>u.cell (by rw [cell_of_row w N 4 _ _ _ hr]; rfl)
 have hne:Nonempty (KW w):=⟨KW.of _⟩
 clear hM hb hb0 hb1 hb2 hb3 hW hA hN hr ho htt hv hl hvo
 go_enter Tryz.func31,Tryz.ntmps31
 go_wp2_with fail
 refine wp_region_class (C:=fun W=>∃ u:KW w,W=u.W) (by kernel_rfl) (by kernel_rfl) ⟨⟨World.drew _,(Keeps.refl _ _).drew⟩,rfl⟩ ?_
 repeat (go_big_quiet_step (first | (go_at_call 54; with_reducible refine kw_call _ (HTX.out _))))
 refine wpQuiet_nil ?_
 rintro _ ⟨T,rfl⟩
 obtain ⟨v0,hv0⟩:∃ W,T.W=W:=⟨_,rfl⟩
 have HKv0:Hid (Keeps No w v0):=zz (by rw [← hv0]; exact T.h)
 rw [hv0]
 clear p2 p3 p4 hne hv0 T
 have hr:=(HAG.out.no HKv0.out).row HRW.out HNB.out
 have c0:v0.cell? ⟨N,0,none⟩=some (.int .i64 2):=by rw [cell_of_row v0 N 0 _ _ _ hr]; rfl
 clear hr
 have hk3:Keeps No v0 (v0.alloc (.cells #[.string ⟨#[116,121,112,101,100,101,102]⟩,.string tt,.string nm] 9)):=(Keeps.refl _ _).alloc _
 have hp3:(v0.alloc (.cells #[.string ⟨#[116,121,112,101,100,101,102]⟩,.string tt,.string nm] 9)).heap[v0.heap.size]?=some (.cells #[.string ⟨#[116,121,112,101,100,101,102]⟩,.string tt,.string nm] 9 (0,0)):=heap_alloc_new _ _
 have hne3:v0.heap.size ≠ W:=by have:=HWE.out.bw.lt; have:=HKv0.out.size; omega
 have HKv3:Hid (Keeps No w (v0.alloc (.cells #[.string ⟨#[116,121,112,101,100,101,102]⟩,.string tt,.string nm] 9))):=zz (HKv0.out.trans hk3 (fun _ _ e=>e))
 have HPT:Hid (Pts (v0.alloc (.cells #[.string ⟨#[116,121,112,101,100,101,102]⟩,.string tt,.string nm] 9)) W (.slice (some ⟨v0.heap.size,0,none⟩) 3 3) [⟨#[116,121,112,101,100,101,102]⟩,tt,nm]):=zz ⟨by simp,.inr ⟨v0.heap.size,rfl,hp3,hne3⟩⟩
 clear hk3 hp3 hne3
 go_wp2_with fail
 refine (open_any W B x [⟨#[116,121,112,101,100,101,102]⟩,tt,nm] _ _ (HWE.out.no HKv3.out) HPT.out HB0.out).mono ?_
 rintro e' w1 ⟨rfl,hx⟩
 have HX0:=zz (WX.after HKv3.out hx)
 clear hx c0
 have HA0:=zz (HAG.out.wx HX0.out)
 have hr:=HA0.out.row HRW.out HNB.out
 clear hr
 go_wp2_with fail
 refine (open_any W B (Sy.openP [⟨#[116,121,112,101,100,101,102]⟩,tt,nm] x) [] (.slice none 0 0) w1 HX0.out.p ⟨by simp,.inl ⟨rfl,rfl⟩⟩ HB1.out).mono ?_
 rintro e' w2 ⟨rfl,hx⟩
 have HX1:=zz (HX0.out.trans hx)
 clear hx
 have hr:=(HAG.out.wx HX1.out).row HRW.out HNB.out
 have c8:w2.cell? ⟨N,8,none⟩=some (.slice ta n tc):=by rw [cell_of_row w2 N 8 _ _ _ hr]; rfl
 clear hr
 go_wp2_with fail
 clear c8
 go_loopg [68] n (fun gg u wr=>∃ i:Nat,u=.int .i64 (i:Int)∧i≤n∧gg=n - i∧Hid (WX w wr W B ((ys.take i).foldl Sy.tyF (Sy.openP [] (Sy.openP [⟨#[116,121,112,101,100,101,102]⟩,tt,nm] x)))))
 case atStart=>exact ⟨0,rfl,by omega,by omega,HX1⟩
 case round =>
  obtain ⟨i,rfl,hi,rfl,HXR⟩:=hrel
  by_cases hlt:i < n
  · obtain ⟨y,hy⟩:∃ y,ys[i]?=some y:=⟨_,List.getElem?_eq_getElem (by have:=HL.out; omega)⟩
    have hlt1:(i:Int) < (n:Int):=by omega
    have how:=(HAG.out.wx HXR.out).own HRV.out
    obtain ⟨gv,hg⟩:∃ g,ta=some ⟨g,0,none⟩:=by
     obtain ⟨aa,ca,e2,h2⟩:=own_form how
     obtain ⟨g,hg⟩:=h2 (by omega)
     injection e2 with e2
     exact ⟨g,e2.trans hg⟩
    subst hg
    have cy:=fun (j:Nat) (v:Value) (hj:(tyVals y)[j]?=some v)=>row_cell2 how hy hj
    have d0:wr.cell? ⟨gv,i * 2,none⟩=some (.string y.base):=cy 0 _ rfl
    have d1:wr.cell? ⟨gv,i * 2+1,none⟩=some (.int .i64 y.stars):=cy 1 _ rfl
    obtain ⟨xr,hxr⟩:∃ x',(ys.take i).foldl Sy.tyF (Sy.openP [] (Sy.openP [⟨#[116,121,112,101,100,101,102]⟩,tt,nm] x))=x':=⟨_,rfl⟩
    rw [hxr] at HXR
    have hoky:=HOK.out i y hy
    unfold Sy.okN at hoky
    rw [decide_eq_true_eq] at hoky
    obtain ⟨tu,htu⟩:∃ t,Sy.tyM ⟨y.base,y.stars⟩=t:=⟨_,rfl⟩
    have hstep:(ys.take (i+1)).foldl Sy.tyF (Sy.openP [] (Sy.openP [⟨#[116,121,112,101,100,101,102]⟩,tt,nm] x))=Sy.partW tu xr:=by
     rw [List.take_add_one,hy,List.foldl_append,hxr,← htu]; rfl
    have hbo:(Sy.partW tu xr).out.size≤BIG:=by
     rw [← hstep]; exact Nat.le_trans (fold_le Sy.tyF Sy.tyF_mono ys (i+1) (Sy.openP [] (Sy.openP [⟨#[116,121,112,101,100,101,102]⟩,tt,nm] x))) HSZ.out
    have HTU:=zz (fun W=>text_any y.base y.stars tu hoky.1 (by omega) (by
     have e:y.base.size≤tu.size:=by rw [← htu]; show y.base.size≤(y.base++Sy.starL y.stars.toNat).size; rw [ByteArray.size_append]; omega
     have e2:=Sy.part_le tu xr
     unfold BIG at hbo; omega) htu W)
    have HST:=zz hstep
    have HBO:=zz hbo
    clear how cy hoky htu hstep hbo hxr hy
    go_upto_region 16 with fail
    have hv:(wr.alloc (.cells #[.string y.base,.int .i64 y.stars] 60)).heap[wr.heap.size]?=some (.cells #[.string y.base,.int .i64 y.stars] 60 (0,0)):=heap_alloc_new _ _
    have hkv:Keeps No wr (wr.alloc (.cells #[.string y.base,.int .i64 y.stars] 60)):=(Keeps.refl _ _).alloc _
    generalize wr.alloc (.cells #[.string y.base,.int .i64 y.stars] 60)=v1 at hv hkv ⊢
    obtain ⟨V,hV⟩:∃ q,wr.heap.size=q:=⟨_,rfl⟩
    rw [hV] at hv ⊢
    have HX2:=zz (HXR.out.no hkv)
    have q0:v1.cell? ⟨V,0,none⟩=some (.string y.base):=by rw [cell_of_row v1 V 0 _ _ _ hv]; rfl
    have q1:v1.cell? ⟨V,1,none⟩=some (.int .i64 y.stars):=by rw [cell_of_row v1 V 1 _ _ _ hv]; rfl
    clear hv hkv hV d0 d1
    go_wp2_with fail
    refine (HTU.out v1).mono ?_
    rintro e' v2 ⟨rfl,hk⟩
    have HX3:=zz (HX2.out.no hk)
    clear hk q0 q1
    go_wp2_with fail
    refine (part_any W B xr tu v2 HX3.out.p HBO.out).mono ?_
    rintro e' v5 ⟨rfl,hx⟩
    have HX5:Hid (WX w v5 W B ((ys.take (i+1)).foldl Sy.tyF (Sy.openP [] (Sy.openP [⟨#[116,121,112,101,100,101,102]⟩,tt,nm] x)))):=zz (by rw [HST.out]; exact HX3.out.trans hx)
    clear hx
    go_wp2_with fail
    go_roundg (n - (i+1))
    case rel=>exact ⟨i+1,by go_num,by omega,rfl,HX5⟩
    case measure=>omega
  · have hlt1:¬ (i:Int) < (n:Int):=by omega
    have HXE:Hid (WX w wr W B (ys.foldl Sy.tyF (Sy.openP [] (Sy.openP [⟨#[116,121,112,101,100,101,102]⟩,tt,nm] x)))):=zz (by
     have e:=HXR.out
     rw [List.take_of_length_le (by have:=HL.out; omega)] at e
     exact e)
    clear HXR
    go_wp2_with fail
    refine (close_any W B (ys.foldl Sy.tyF (Sy.openP [] (Sy.openP [⟨#[116,121,112,101,100,101,102]⟩,tt,nm] x))) wr HXE.out.p HB3.out).mono ?_
    rintro e' w9 ⟨rfl,hx⟩
    have HXF:=zz (HXE.out.trans hx)
    clear hx
    go_wp2_with fail
    refine (close_any W B (Sy.closeW (ys.foldl Sy.tyF (Sy.openP [] (Sy.openP [⟨#[116,121,112,101,100,101,102]⟩,tt,nm] x)))) w9 HXF.out.p HBC.out).mono ?_
    rintro e' z9 ⟨rfl,hx⟩
    have HX9:=zz (HXF.out.trans hx)
    clear hx
    go_wp2_with fail
    go_returns
    exact ⟨rfl,by rw [HM.out]; exact HX9.out⟩
theorem Sy.params_mono (vs:List Sy.Vr) (x:Sy.Wr):x.out.size≤(Sy.paramsW vs x).out.size:=by
 have h1:=Sy.openP_mono [] x
 have h2:=fold_le Sy.parF Sy.parF_mono vs 0 (Sy.openP [] x)
 rw [List.take_zero,List.foldl_nil] at h2
 have h3:=Sy.close_mono (vs.foldl Sy.parF (Sy.openP [] x))
 exact Nat.le_trans h1 (Nat.le_trans h2 h3)
theorem it_k3 (W B:Nat) (x:Sy.Wr) (w0 w:World) (N:Nat) (at_:Int) (nm tb:ByteArray) (ts nu:Int) (ar:Bool) (vv vt vl:Value) (pb pi:Option Addr) (ls:Bool) (va_:List Sy.Vr) (ty_:List Sy.Ty) (bo:Option Sy.Sm) (ini:Option Sy.Ex) (li:List Sy.Ex) (va:Option Addr) (vc n:Nat) (vs:List Sy.Vr) (hW:WE w W B x) (hA:Agr B w0 w) (hN:N < B)
    (hr:w0.heap[N]?=some (.cells (itRow 3 at_ ⟨nm,⟨tb,ts⟩,ar,nu⟩ (.slice va n vc) vt pb pi vl ls) 69 (0,0)))
    (hv:RwD w0 (fun q=>q < B) 62 5 (.slice va n vc) n (vs.flatMap vrVals)) (hl:n=vs.length) (hvo:vs.all (fun v=>Sy.okN v.ty.stars v.num)=true) (ho:Sy.okN ts nu=true) (hb:(Sy.itW ⟨3,at_,⟨nm,⟨tb,ts⟩,ar,nu⟩,vs,ty_,bo,ini,li,ls⟩ x).out.size≤BIG) :
    Calls Tryz.prog 31 #[.pointer (some ⟨W,0,none⟩),.pointer (some ⟨N,0,none⟩)] w (WrPost w W B (Sy.itW ⟨3,at_,⟨nm,⟨tb,ts⟩,ar,nu⟩,vs,ty_,bo,ini,li,ls⟩ x)):=by
 obtain ⟨tt,htt⟩:∃ t,Sy.tyM ⟨tb,ts⟩=t:=⟨_,rfl⟩
 have hM:Sy.itW ⟨3,at_,⟨nm,⟨tb,ts⟩,ar,nu⟩,vs,ty_,bo,ini,li,ls⟩ x=Sy.closeW (Sy.paramsW vs (Sy.openP [⟨#[112,114,111,116,111]⟩,tt,nm] x)):=by
  rw [← htt]; rfl
 rw [hM] at hb
 have HM:=zz hM
 have HBC:=zz hb
 have hb1:=Nat.le_trans (Sy.close_mono (Sy.paramsW vs (Sy.openP [⟨#[112,114,111,116,111]⟩,tt,nm] x))) hb
 have hb0:=Nat.le_trans (Sy.params_mono vs (Sy.openP [⟨#[112,114,111,116,111]⟩,tt,nm] x)) hb1
 have HB0:=zz hb0
 have HB1:=zz hb1
 have HWE:=zz hW
 have HAG:=zz hA
 have HNB:=zz hN
 have HRW:=zz hr
 have HRV:=zz hv
 have HL:=zz hl
 have HVO:=zz hvo
 unfold Sy.okN at ho
 rw [decide_eq_true_eq] at ho
 have HTZ:Hid (tb.size≤1000000000000):=zz (by
  have hts:=Sy.openP_mem [⟨#[112,114,111,116,111]⟩,tt,nm] x tt (by simp)
  have e:tb.size≤tt.size:=by rw [← htt]; show tb.size≤(tb++Sy.starL ts.toNat).size; rw [ByteArray.size_append]; omega
  unfold BIG at hb0; omega)
 have HTX:=zz (fun W=>text_any tb ts tt ho.1 (by omega) HTZ.out htt W)
 have hr:=hA.row hr hN
 have p2:∀ u:KW w,u.W.cell? ⟨N,2,none⟩=some (.string nm):=fun u=>u.cell (by rw [cell_of_row w N 2 _ _ _ hr]; rfl)
 have p3:∀ u:KW w,u.W.cell? ⟨N,3,none⟩=some (.string tb):=fun u=>u.cell (by rw [cell_of_row w N 3 _ _ _ hr]; rfl)
 have p4:∀ u:KW w,u.W.cell? ⟨N,4,none⟩=some (.int .i64 ts):=fun u=>u.cell (by rw [cell_of_row w N 4 _ _ _ hr]; rfl)
 have hne:Nonempty (KW w):=⟨KW.of _⟩
 clear hM hb hb0 hb1 hW hA hN hr ho htt hv hl hvo
 go_enter Tryz.func31,Tryz.ntmps31
 go_wp2_with fail
 refine wp_region_class (C:=fun W=>∃ u:KW w,W=u.W) (by kernel_rfl) (by kernel_rfl) ⟨⟨World.drew _,(Keeps.refl _ _).drew⟩,rfl⟩ ?_
 repeat (go_big_quiet_step (first | (go_at_call 54; with_reducible refine kw_call _ (HTX.out _))))
 refine wpQuiet_nil ?_
 rintro _ ⟨T,rfl⟩
 obtain ⟨v0,hv0⟩:∃ W,T.W=W:=⟨_,rfl⟩
 have HKv0:Hid (Keeps No w v0):=zz (by rw [← hv0]; exact T.h)
 rw [hv0]
 clear p2 p3 p4 hne hv0 T
 have hr:=(HAG.out.no HKv0.out).row HRW.out HNB.out
 have c0:v0.cell? ⟨N,0,none⟩=some (.int .i64 3):=by rw [cell_of_row v0 N 0 _ _ _ hr]; rfl
 clear hr
 have hk3:Keeps No v0 (v0.alloc (.cells #[.string ⟨#[112,114,111,116,111]⟩,.string tt,.string nm] 9)):=(Keeps.refl _ _).alloc _
 have hp3:(v0.alloc (.cells #[.string ⟨#[112,114,111,116,111]⟩,.string tt,.string nm] 9)).heap[v0.heap.size]?=some (.cells #[.string ⟨#[112,114,111,116,111]⟩,.string tt,.string nm] 9 (0,0)):=heap_alloc_new _ _
 have hne3:v0.heap.size ≠ W:=by have:=HWE.out.bw.lt; have:=HKv0.out.size; omega
 have HKv3:Hid (Keeps No w (v0.alloc (.cells #[.string ⟨#[112,114,111,116,111]⟩,.string tt,.string nm] 9))):=zz (HKv0.out.trans hk3 (fun _ _ e=>e))
 have HPT:Hid (Pts (v0.alloc (.cells #[.string ⟨#[112,114,111,116,111]⟩,.string tt,.string nm] 9)) W (.slice (some ⟨v0.heap.size,0,none⟩) 3 3) [⟨#[112,114,111,116,111]⟩,tt,nm]):=zz ⟨by simp,.inr ⟨v0.heap.size,rfl,hp3,hne3⟩⟩
 clear hk3 hp3 hne3
 go_wp2_with fail
 refine (open_any W B x [⟨#[112,114,111,116,111]⟩,tt,nm] _ _ (HWE.out.no HKv3.out) HPT.out HB0.out).mono ?_
 rintro e' w1 ⟨rfl,hx⟩
 have HX0:=zz (WX.after HKv3.out hx)
 clear hx c0
 have HA0:=zz (HAG.out.wx HX0.out)
 have hr:=HA0.out.row HRW.out HNB.out
 have c7:w1.cell? ⟨N,7,none⟩=some (.slice va n vc):=by rw [cell_of_row w1 N 7 _ _ _ hr]; rfl
 clear hr
 go_wp2_with fail
 refine (params_told W B (Sy.openP [⟨#[112,114,111,116,111]⟩,tt,nm] x) w0 w1 va vc n vs HX0.out.p HA0.out HRV.out HL.out HVO.out HB1.out).mono ?_
 rintro e' w2 ⟨rfl,hx⟩
 have HX1:=zz (HX0.out.trans hx)
 clear hx c7
 go_wp2_with fail
 refine (close_any W B (Sy.paramsW vs (Sy.openP [⟨#[112,114,111,116,111]⟩,tt,nm] x)) w2 HX1.out.p HBC.out).mono ?_
 rintro e' z9 ⟨rfl,hx⟩
 have HX9:=zz (HX1.out.trans hx)
 clear hx
 go_wp2_with fail
 go_returns
 exact ⟨rfl,by rw [HM.out]; exact HX9.out⟩
theorem it_k4 (W B:Nat) (x:Sy.Wr) (w0 w:World) (N:Nat) (at_:Int) (nm tb:ByteArray) (ts nu:Int) (ar:Bool) (vv vt vl:Value) (pb pi:Option Addr) (ls:Bool) (va_:List Sy.Vr) (ty_:List Sy.Ty) (bo:Option Sy.Sm) (ini:Option Sy.Ex) (li:List Sy.Ex) (va:Option Addr) (vc n:Nat) (vs:List Sy.Vr) (s1:Sy.Sm) (hW:WE w W B x) (hA:Agr B w0 w) (hN:N < B)
    (hr:w0.heap[N]?=some (.cells (itRow 4 at_ ⟨nm,⟨tb,ts⟩,ar,nu⟩ (.slice va n vc) vt pb pi vl ls) 69 (0,0)))
    (hv:RwD w0 (fun q=>q < B) 62 5 (.slice va n vc) n (vs.flatMap vrVals)) (hl:n=vs.length) (hvo:vs.all (fun v=>Sy.okN v.ty.stars v.num)=true) (hs:Told 60 W B w0 pb (Sy.smW s1)) (ho:Sy.okN ts nu=true) (hb:(Sy.itW ⟨4,at_,⟨nm,⟨tb,ts⟩,ar,nu⟩,vs,ty_,some s1,ini,li,ls⟩ x).out.size≤BIG) :
    Calls Tryz.prog 31 #[.pointer (some ⟨W,0,none⟩),.pointer (some ⟨N,0,none⟩)] w (WrPost w W B (Sy.itW ⟨4,at_,⟨nm,⟨tb,ts⟩,ar,nu⟩,vs,ty_,some s1,ini,li,ls⟩ x)):=by
 obtain ⟨tt,htt⟩:∃ t,Sy.tyM ⟨tb,ts⟩=t:=⟨_,rfl⟩
 have hM:Sy.itW ⟨4,at_,⟨nm,⟨tb,ts⟩,ar,nu⟩,vs,ty_,some s1,ini,li,ls⟩ x=Sy.closeW (Sy.smW s1 (Sy.paramsW vs (Sy.openP [⟨#[102,117,110,99]⟩,tt,nm] x))):=by
  rw [← htt]; rfl
 rw [hM] at hb
 have HM:=zz hM
 have HBC:=zz hb
 have hb2:=Nat.le_trans (Sy.close_mono (Sy.smW s1 (Sy.paramsW vs (Sy.openP [⟨#[102,117,110,99]⟩,tt,nm] x)))) hb
 have hb1:=Nat.le_trans (Sy.sm_mono s1 (Sy.paramsW vs (Sy.openP [⟨#[102,117,110,99]⟩,tt,nm] x))) hb2
 have hb0:=Nat.le_trans (Sy.params_mono vs (Sy.openP [⟨#[102,117,110,99]⟩,tt,nm] x)) hb1
 have HB0:=zz hb0
 have HB1:=zz hb1
 have HB2:=zz hb2
 have HWE:=zz hW
 have HAG:=zz hA
 have HNB:=zz hN
 have HRW:=zz hr
 have HRV:=zz hv
 have HL:=zz hl
 have HVO:=zz hvo
 have HS1:=zz hs
 unfold Sy.okN at ho
 rw [decide_eq_true_eq] at ho
 have HTZ:Hid (tb.size≤1000000000000):=zz (by
  have hts:=Sy.openP_mem [⟨#[102,117,110,99]⟩,tt,nm] x tt (by simp)
  have e:tb.size≤tt.size:=by rw [← htt]; show tb.size≤(tb++Sy.starL ts.toNat).size; rw [ByteArray.size_append]; omega
  unfold BIG at hb0; omega)
 have HTX:=zz (fun W=>text_any tb ts tt ho.1 (by omega) HTZ.out htt W)
 have hr:=hA.row hr hN
 have p2:∀ u:KW w,u.W.cell? ⟨N,2,none⟩=some (.string nm):=fun u=>u.cell (by rw [cell_of_row w N 2 _ _ _ hr]; rfl)
 have p3:∀ u:KW w,u.W.cell? ⟨N,3,none⟩=some (.string tb):=fun u=>u.cell (by rw [cell_of_row w N 3 _ _ _ hr]; rfl)
 have p4:∀ u:KW w,u.W.cell? ⟨N,4,none⟩=some (.int .i64 ts):=fun u=>u.cell (by rw [cell_of_row w N 4 _ _ _ hr]; rfl)
 have hne:Nonempty (KW w):=⟨KW.of _⟩
 clear hM hb hb0 hb1 hb2 hW hA hN hr ho htt hv hl hvo hs
 go_enter Tryz.func31,Tryz.ntmps31
 go_wp2_with fail
 refine wp_region_class (C:=fun W=>∃ u:KW w,W=u.W) (by kernel_rfl) (by kernel_rfl) ⟨⟨World.drew _,(Keeps.refl _ _).drew⟩,rfl⟩ ?_
 repeat (go_big_quiet_step (first | (go_at_call 54; with_reducible refine kw_call _ (HTX.out _))))
 refine wpQuiet_nil ?_
 rintro _ ⟨T,rfl⟩
 obtain ⟨v0,hv0⟩:∃ W,T.W=W:=⟨_,rfl⟩
 have HKv0:Hid (Keeps No w v0):=zz (by rw [← hv0]; exact T.h)
 rw [hv0]
 clear p2 p3 p4 hne hv0 T
 have hr:=(HAG.out.no HKv0.out).row HRW.out HNB.out
 have c0:v0.cell? ⟨N,0,none⟩=some (.int .i64 4):=by rw [cell_of_row v0 N 0 _ _ _ hr]; rfl
 clear hr
 have hk3:Keeps No v0 (v0.alloc (.cells #[.string ⟨#[102,117,110,99]⟩,.string tt,.string nm] 9)):=(Keeps.refl _ _).alloc _
 have hp3:(v0.alloc (.cells #[.string ⟨#[102,117,110,99]⟩,.string tt,.string nm] 9)).heap[v0.heap.size]?=some (.cells #[.string ⟨#[102,117,110,99]⟩,.string tt,.string nm] 9 (0,0)):=heap_alloc_new _ _
 have hne3:v0.heap.size ≠ W:=by have:=HWE.out.bw.lt; have:=HKv0.out.size; omega
 have HKv3:Hid (Keeps No w (v0.alloc (.cells #[.string ⟨#[102,117,110,99]⟩,.string tt,.string nm] 9))):=zz (HKv0.out.trans hk3 (fun _ _ e=>e))
 have HPT:Hid (Pts (v0.alloc (.cells #[.string ⟨#[102,117,110,99]⟩,.string tt,.string nm] 9)) W (.slice (some ⟨v0.heap.size,0,none⟩) 3 3) [⟨#[102,117,110,99]⟩,tt,nm]):=zz ⟨by simp,.inr ⟨v0.heap.size,rfl,hp3,hne3⟩⟩
 clear hk3 hp3 hne3
 go_wp2_with fail
 refine (open_any W B x [⟨#[102,117,110,99]⟩,tt,nm] _ _ (HWE.out.no HKv3.out) HPT.out HB0.out).mono ?_
 rintro e' w1 ⟨rfl,hx⟩
 have HX0:=zz (WX.after HKv3.out hx)
 clear hx c0
 have HA0:=zz (HAG.out.wx HX0.out)
 have hr:=HA0.out.row HRW.out HNB.out
 have c7:w1.cell? ⟨N,7,none⟩=some (.slice va n vc):=by rw [cell_of_row w1 N 7 _ _ _ hr]; rfl
 clear hr
 go_wp2_with fail
 refine (params_told W B (Sy.openP [⟨#[102,117,110,99]⟩,tt,nm] x) w0 w1 va vc n vs HX0.out.p HA0.out HRV.out HL.out HVO.out HB1.out).mono ?_
 rintro e' w2 ⟨rfl,hx⟩
 have HX1:=zz (HX0.out.trans hx)
 clear hx c7
 have HA1:=zz (HAG.out.wx HX1.out)
 have hr:=HA1.out.row HRW.out HNB.out
 have c9:w2.cell? ⟨N,9,none⟩=some (.pointer pb):=by rw [cell_of_row w2 N 9 _ _ _ hr]; rfl
 clear hr
 go_wp2_with fail
 refine (HS1.out w2 (Sy.paramsW vs (Sy.openP [⟨#[102,117,110,99]⟩,tt,nm] x)) HA1.out HX1.out.p HB2.out).mono ?_
 rintro e' w3 ⟨rfl,hx⟩
 have HX2:=zz (HX1.out.trans hx)
 clear hx c9
 go_wp2_with fail
 refine (close_any W B (Sy.smW s1 (Sy.paramsW vs (Sy.openP [⟨#[102,117,110,99]⟩,tt,nm] x))) w3 HX2.out.p HBC.out).mono ?_
 rintro e' z9 ⟨rfl,hx⟩
 have HX9:=zz (HX2.out.trans hx)
 clear hx
 go_wp2_with fail
 go_returns
 exact ⟨rfl,by rw [HM.out]; exact HX9.out⟩
end Go.Proofs.YtflbkdfbjofllaaGreatDoor
