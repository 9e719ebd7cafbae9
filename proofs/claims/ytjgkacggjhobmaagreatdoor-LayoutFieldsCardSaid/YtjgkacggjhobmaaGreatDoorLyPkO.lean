import Derived.Test.YtjgkacggjhobmaaGreatDoorLyPkN
import Derived.Test.YtjgkacggjhobmaaGreatDoorLyPkI
import Derived.Lib.UnsafeStr
import Derived.Test.YtjgkacggjhobmaaGreatDoorProg
import Derived.WalkKit
import Derived.WalkSpells
import Derived.WalkLawsBesides
import Derived.RowKit3
import Derived.Handy
import Derived.Lib.Hide
import Derived.BigQuiet
import Derived.Deep.QuietTactic
import Derived.OneCell
import Derived.Test.YtjgkacggjhobmaaGreatDoorLyPkB
import Derived.Deep.LoopGhost
import Derived.IntWalk
set_option maxRecDepth 100000
set_option maxHeartbeats 25600000
set_option linter.unusedSimpArgs false
set_option linter.unusedVariables false
namespace Go.Proofs.YtjgkacggjhobmaaGreatDoor
open Go.RowKit Lx
theorem it_k5a (W B:Nat) (x:Sy.Wr) (w0 w:World) (N:Nat) (at_:Int) (nm tb:ByteArray) (ts nu:Int) (ar:Bool) (vv vt vl:Value) (pb pi:Option Addr) (ls:Bool) (va_:List Sy.Vr) (ty_:List Sy.Ty) (bo:Option Sy.Sm) (ini:Option Sy.Ex) (li:List Sy.Ex) (la:Option Addr) (n lc:Nat) (init:Option Sy.Ex) (hW:WE w W B x) (hA:Agr B w0 w) (hN:N < B)
    (hr:w0.heap[N]?=some (.cells (itRow 5 at_ ⟨nm,⟨tb,ts⟩,ar,nu⟩ vv vt pb pi (.slice la n lc) false) 97 (0,0)))
    (hi:Told 101 W B w0 pi (Sy.optW init)) (ho:Sy.okN ts nu=true) (hb:(Sy.itW ⟨5,at_,⟨nm,⟨tb,ts⟩,ar,nu⟩,va_,ty_,bo,init,li,false⟩ x).out.size≤BIG) :
    Calls Tryz.prog 45 #[.pointer (some ⟨W,0,none⟩),.pointer (some ⟨N,0,none⟩)] w (WrPost w W B (Sy.itW ⟨5,at_,⟨nm,⟨tb,ts⟩,ar,nu⟩,va_,ty_,bo,init,li,false⟩ x)):=by
 obtain ⟨tt,htt⟩:∃ t,Sy.tyM ⟨tb,ts⟩=t:=⟨_,rfl⟩;obtain ⟨dn,hdn⟩:∃ t,Sy.decM nu=t:=⟨_,rfl⟩;have hM:Sy.itW ⟨5,at_,⟨nm,⟨tb,ts⟩,ar,nu⟩,va_,ty_,bo,init,li,false⟩ x=Sy.closeW (Sy.optW init (Sy.openP [⟨#[118,97,114]⟩,tt,nm,dn] x)):=by
  rw [← htt,← hdn]; rfl
 rw [hM] at hb;have HM:=zz hM;have HBC:=zz hb;have hb1:=Nat.le_trans (Sy.close_mono (Sy.optW init (Sy.openP [⟨#[118,97,114]⟩,tt,nm,dn] x))) hb;have hb0:=Nat.le_trans (Sy.opt_mono init (Sy.openP [⟨#[118,97,114]⟩,tt,nm,dn] x)) hb1;have HB0:=zz hb0;have HB1:=zz hb1;have HWE:=zz hW;have HAG:=zz hA;have HNB:=zz hN;have HRW:=zz hr;have HIN:=zz hi;unfold Sy.okN at ho;rw [decide_eq_true_eq] at ho;have HTZ:Hid (tb.size≤1000000000000):=zz (by
  have hts:=Sy.openP_mem [⟨#[118,97,114]⟩,tt,nm,dn] x tt (by simp);have e:tb.size≤tt.size:=by rw [← htt]; show tb.size≤(tb++Sy.starL ts.toNat).size; rw [ByteArray.size_append]; omega
  unfold BIG at hb0; omega)
 have HTX:=zz (fun W=>text_any tb ts tt ho.1 (by omega) HTZ.out htt W);have HDC:=zz (fun W hl=>decimal_any nu dn ho.2.2.1 ho.2.2.2 hdn W hl);have hr:=hA.row hr hN;have p2:∀ u:KW w,u.W.cell? ⟨N,2,none⟩=some (.string nm):=fun u=>u.cell (by rw [cell_of_row w N 2 _ _ _ hr]; rfl)
 have p3:∀ u:KW w,u.W.cell? ⟨N,3,none⟩=some (.string tb):=fun u=>u.cell (by rw [cell_of_row w N 3 _ _ _ hr]; rfl)
 have p4:∀ u:KW w,u.W.cell? ⟨N,4,none⟩=some (.int .i64 ts):=fun u=>u.cell (by rw [cell_of_row w N 4 _ _ _ hr]; rfl)
 have hne:Nonempty (KW w):=⟨KW.of _⟩;clear hM hb hb0 hb1 hW hA hN hr ho htt hdn hi;go_enter Tryz.func45,Tryz.ntmps45;go_wp2_with fail;refine wp_region_class (C:=fun W=>∃ u:KW w,W=u.W) (by kernel_rfl) (by kernel_rfl) ⟨⟨World.drew _,(Keeps.refl _ _).drew⟩,rfl⟩ ?_
 repeat (go_big_quiet_step (first | (go_at_call 13; with_reducible refine kw_call _ (HTX.out _))))
 refine wpQuiet_nil ?_;rintro _ ⟨T,rfl⟩;obtain ⟨v0,hv0⟩:∃ W,T.W=W:=⟨_,rfl⟩;have HKv0:Hid (Keeps No w v0):=zz (by rw [← hv0]; exact T.h);rw [hv0];clear p2 p3 p4 hne hv0 T;have hr:=(HAG.out.no HKv0.out).row HRW.out HNB.out;have c0:v0.cell? ⟨N,0,none⟩=some (.int .i64 5):=by rw [cell_of_row v0 N 0 _ _ _ hr]; rfl
 have c6:v0.cell? ⟨N,6,none⟩=some (.int .u64 nu):=by rw [cell_of_row v0 N 6 _ _ _ hr]; rfl
 clear hr;go_wp2_with fail;refine (HDC.out v0 (HWE.out.lp.no HKv0.out)).mono ?_;rintro e' v1 ⟨rfl,hk⟩;have HKv1:Hid (Keeps No w v1):=zz (HKv0.out.trans hk (fun _ _ e=>e));clear hk c0 c6;have hk3:Keeps No v1 (v1.alloc (.cells #[.string ⟨#[118,97,114]⟩,.string tt,.string nm,.string dn] 9)):=(Keeps.refl _ _).alloc _;have hp3:(v1.alloc (.cells #[.string ⟨#[118,97,114]⟩,.string tt,.string nm,.string dn] 9)).heap[v1.heap.size]?=some (.cells #[.string ⟨#[118,97,114]⟩,.string tt,.string nm,.string dn] 9 (0,0)):=heap_alloc_new _ _;have hne3:v1.heap.size≠W:=by have:=HWE.out.bw.lt; have:=HKv1.out.size; omega
 have HKv3:Hid (Keeps No w (v1.alloc (.cells #[.string ⟨#[118,97,114]⟩,.string tt,.string nm,.string dn] 9))):=zz (HKv1.out.trans hk3 (fun _ _ e=>e));have HPT:Hid (Pts (v1.alloc (.cells #[.string ⟨#[118,97,114]⟩,.string tt,.string nm,.string dn] 9)) W (.slice (some ⟨v1.heap.size,0,none⟩) 4 4) [⟨#[118,97,114]⟩,tt,nm,dn]):=zz ⟨by simp,.inr ⟨v1.heap.size,rfl,hp3,hne3⟩⟩;clear hk3 hp3 hne3;go_wp2_with fail;refine (open_any W B x [⟨#[118,97,114]⟩,tt,nm,dn] _ _ (HWE.out.no HKv3.out) HPT.out HB0.out).mono ?_;rintro e' w1 ⟨rfl,hx⟩;have HX0:=zz (WX.after HKv3.out hx);clear hx;have HA0:=zz (HAG.out.wx HX0.out);have hr:=HA0.out.row HRW.out HNB.out;clear hr;go_wp2_with fail;refine (init_no W B (Sy.openP [⟨#[118,97,114]⟩,tt,nm,dn] x) w0 w1 N 5 at_ ⟨nm,⟨tb,ts⟩,ar,nu⟩ vv vt pb pi la n lc init HX0.out.p HA0.out HNB.out HRW.out HIN.out HB1.out).mono ?_;rintro e' w2 ⟨rfl,hx⟩;have HX1:=zz (HX0.out.trans hx);clear hx;go_wp2_with fail;refine (close_any W B (Sy.optW init (Sy.openP [⟨#[118,97,114]⟩,tt,nm,dn] x)) w2 HX1.out.p HBC.out).mono ?_;rintro e' z9 ⟨rfl,hx⟩;have HX9:=zz (HX1.out.trans hx);clear hx;go_wp2_with fail;go_returns;exact ⟨rfl,by rw [HM.out]; exact HX9.out⟩
theorem it_k5b (W B:Nat) (x:Sy.Wr) (w0 w:World) (N:Nat) (at_:Int) (nm tb:ByteArray) (ts nu:Int) (ar:Bool) (vv vt vl:Value) (pb pi:Option Addr) (ls:Bool) (va_:List Sy.Vr) (ty_:List Sy.Ty) (bo:Option Sy.Sm) (ini:Option Sy.Ex) (li:List Sy.Ex) (la:Option Addr) (n lc:Nat) (es:List Sy.Ex) (hW:WE w W B x) (hA:Agr B w0 w) (hN:N < B)
    (hr:w0.heap[N]?=some (.cells (itRow 5 at_ ⟨nm,⟨tb,ts⟩,ar,nu⟩ vv vt pb pi (.slice la n lc) true) 97 (0,0)))
    (hE:∀ (w2:World) (y:Sy.Wr),Agr B w0 w2→WE w2 W B y→(Sy.exsW es y).out.size≤BIG→Calls Tryz.prog 102 #[.pointer (some ⟨W,0,none⟩),.slice la n lc] w2 (WrPost w2 W B (Sy.exsW es y))) (ho:Sy.okN ts nu=true) (hb:(Sy.itW ⟨5,at_,⟨nm,⟨tb,ts⟩,ar,nu⟩,va_,ty_,bo,ini,es,true⟩ x).out.size≤BIG) :
    Calls Tryz.prog 45 #[.pointer (some ⟨W,0,none⟩),.pointer (some ⟨N,0,none⟩)] w (WrPost w W B (Sy.itW ⟨5,at_,⟨nm,⟨tb,ts⟩,ar,nu⟩,va_,ty_,bo,ini,es,true⟩ x)):=by
 obtain ⟨tt,htt⟩:∃ t,Sy.tyM ⟨tb,ts⟩=t:=⟨_,rfl⟩;obtain ⟨dn,hdn⟩:∃ t,Sy.decM nu=t:=⟨_,rfl⟩;have hM:Sy.itW ⟨5,at_,⟨nm,⟨tb,ts⟩,ar,nu⟩,va_,ty_,bo,ini,es,true⟩ x=Sy.closeW (Sy.closeW (Sy.exsW es (Sy.openP [⟨#[108,105,115,116]⟩] (Sy.openP [⟨#[118,97,114]⟩,tt,nm,dn] x)))):=by
  rw [← htt,← hdn]; rfl
 rw [hM] at hb;have HM:=zz hM;have HBC:=zz hb;have hb1:=Nat.le_trans (Sy.close_mono (Sy.closeW (Sy.exsW es (Sy.openP [⟨#[108,105,115,116]⟩] (Sy.openP [⟨#[118,97,114]⟩,tt,nm,dn] x))))) hb;have hb0:=Nat.le_trans (Nat.le_trans (Sy.openP_mono [⟨#[108,105,115,116]⟩] (Sy.openP [⟨#[118,97,114]⟩,tt,nm,dn] x)) (Nat.le_trans (Sy.exs_mono es (Sy.openP [⟨#[108,105,115,116]⟩] (Sy.openP [⟨#[118,97,114]⟩,tt,nm,dn] x))) (Sy.close_mono (Sy.exsW es (Sy.openP [⟨#[108,105,115,116]⟩] (Sy.openP [⟨#[118,97,114]⟩,tt,nm,dn] x)))))) hb1;have HB0:=zz hb0;have HB1:=zz hb1;have HWE:=zz hW;have HAG:=zz hA;have HNB:=zz hN;have HRW:=zz hr;have HEX:=zz hE;unfold Sy.okN at ho;rw [decide_eq_true_eq] at ho;have HTZ:Hid (tb.size≤1000000000000):=zz (by
  have hts:=Sy.openP_mem [⟨#[118,97,114]⟩,tt,nm,dn] x tt (by simp);have e:tb.size≤tt.size:=by rw [← htt]; show tb.size≤(tb++Sy.starL ts.toNat).size; rw [ByteArray.size_append]; omega
  unfold BIG at hb0; omega)
 have HTX:=zz (fun W=>text_any tb ts tt ho.1 (by omega) HTZ.out htt W);have HDC:=zz (fun W hl=>decimal_any nu dn ho.2.2.1 ho.2.2.2 hdn W hl);have hr:=hA.row hr hN;have p2:∀ u:KW w,u.W.cell? ⟨N,2,none⟩=some (.string nm):=fun u=>u.cell (by rw [cell_of_row w N 2 _ _ _ hr]; rfl)
 have p3:∀ u:KW w,u.W.cell? ⟨N,3,none⟩=some (.string tb):=fun u=>u.cell (by rw [cell_of_row w N 3 _ _ _ hr]; rfl)
 have p4:∀ u:KW w,u.W.cell? ⟨N,4,none⟩=some (.int .i64 ts):=fun u=>u.cell (by rw [cell_of_row w N 4 _ _ _ hr]; rfl)
 have hne:Nonempty (KW w):=⟨KW.of _⟩;clear hM hb hb0 hb1 hW hA hN hr ho htt hdn hE;go_enter Tryz.func45,Tryz.ntmps45;go_wp2_with fail;refine wp_region_class (C:=fun W=>∃ u:KW w,W=u.W) (by kernel_rfl) (by kernel_rfl) ⟨⟨World.drew _,(Keeps.refl _ _).drew⟩,rfl⟩ ?_
 repeat (go_big_quiet_step (first | (go_at_call 13; with_reducible refine kw_call _ (HTX.out _))))
 refine wpQuiet_nil ?_;rintro _ ⟨T,rfl⟩;obtain ⟨v0,hv0⟩:∃ W,T.W=W:=⟨_,rfl⟩;have HKv0:Hid (Keeps No w v0):=zz (by rw [← hv0]; exact T.h);rw [hv0];clear p2 p3 p4 hne hv0 T;have hr:=(HAG.out.no HKv0.out).row HRW.out HNB.out;have c0:v0.cell? ⟨N,0,none⟩=some (.int .i64 5):=by rw [cell_of_row v0 N 0 _ _ _ hr]; rfl
 have c6:v0.cell? ⟨N,6,none⟩=some (.int .u64 nu):=by rw [cell_of_row v0 N 6 _ _ _ hr]; rfl
 clear hr;go_wp2_with fail;refine (HDC.out v0 (HWE.out.lp.no HKv0.out)).mono ?_;rintro e' v1 ⟨rfl,hk⟩;have HKv1:Hid (Keeps No w v1):=zz (HKv0.out.trans hk (fun _ _ e=>e));clear hk c0 c6;have hk3:Keeps No v1 (v1.alloc (.cells #[.string ⟨#[118,97,114]⟩,.string tt,.string nm,.string dn] 9)):=(Keeps.refl _ _).alloc _;have hp3:(v1.alloc (.cells #[.string ⟨#[118,97,114]⟩,.string tt,.string nm,.string dn] 9)).heap[v1.heap.size]?=some (.cells #[.string ⟨#[118,97,114]⟩,.string tt,.string nm,.string dn] 9 (0,0)):=heap_alloc_new _ _;have hne3:v1.heap.size≠W:=by have:=HWE.out.bw.lt; have:=HKv1.out.size; omega
 have HKv3:Hid (Keeps No w (v1.alloc (.cells #[.string ⟨#[118,97,114]⟩,.string tt,.string nm,.string dn] 9))):=zz (HKv1.out.trans hk3 (fun _ _ e=>e));have HPT:Hid (Pts (v1.alloc (.cells #[.string ⟨#[118,97,114]⟩,.string tt,.string nm,.string dn] 9)) W (.slice (some ⟨v1.heap.size,0,none⟩) 4 4) [⟨#[118,97,114]⟩,tt,nm,dn]):=zz ⟨by simp,.inr ⟨v1.heap.size,rfl,hp3,hne3⟩⟩;clear hk3 hp3 hne3;go_wp2_with fail;refine (open_any W B x [⟨#[118,97,114]⟩,tt,nm,dn] _ _ (HWE.out.no HKv3.out) HPT.out HB0.out).mono ?_;rintro e' w1 ⟨rfl,hx⟩;have HX0:=zz (WX.after HKv3.out hx);clear hx;have HA0:=zz (HAG.out.wx HX0.out);have hr:=HA0.out.row HRW.out HNB.out;clear hr;go_wp2_with fail;refine (init_yes W B (Sy.openP [⟨#[118,97,114]⟩,tt,nm,dn] x) w0 w1 N 5 at_ ⟨nm,⟨tb,ts⟩,ar,nu⟩ vv vt pb pi la n lc es HX0.out.p HA0.out HNB.out HRW.out HEX.out HB1.out).mono ?_;rintro e' w2 ⟨rfl,hx⟩;have HX1:=zz (HX0.out.trans hx);clear hx;go_wp2_with fail;refine (close_any W B (Sy.closeW (Sy.exsW es (Sy.openP [⟨#[108,105,115,116]⟩] (Sy.openP [⟨#[118,97,114]⟩,tt,nm,dn] x)))) w2 HX1.out.p HBC.out).mono ?_;rintro e' z9 ⟨rfl,hx⟩;have HX9:=zz (HX1.out.trans hx);clear hx;go_wp2_with fail;go_returns;exact ⟨rfl,by rw [HM.out]; exact HX9.out⟩
theorem item_told (W B:Nat) (w0:World) (a:Option Addr) (i:Sy.It) (h:ItD w0 (fun q=>q < B) a i) (hok:Sy.okI i=true):Told 45 W B w0 a (Sy.itW i):=by
 cases h with
 | mk N va vc ta tc pb pi la lc av i hD hrow hv ht hl hlen hsub hb hi =>
   intro w x hA hW hs;obtain ⟨kind,at_,⟨nm,⟨tb,ts⟩,ar,nu⟩,vs,ys,body,init,es,ls⟩:=i;unfold Sy.okI at hok;simp only [Bool.and_eq_true] at hok;obtain ⟨hk,hbt,ho,hvo,hto,hio,heo,hbo⟩:=hok;rw [decide_eq_true_eq] at hk hbt;have tE:=fun (w2:World) (y:Sy.Wr) (a1:Agr B w0 w2) (a2:WE w2 W B y) (a3:(Sy.exsW es y).out.size≤BIG)=>exprs_any W B w0 la lc av es hl hlen (fun i a e h1 h2=>expr_any W B w0 a e (hsub i a e h1 h2) (Sy.okEs_get heo h2)) w2 y a1 a2 a3
   have tI:=opt_told W B w0 pi init hi hio;have hc:kind=1∨kind=2∨kind=3∨kind=4∨kind=5:=by omega
   rcases hc with rfl | rfl | rfl | rfl | rfl
   · exact it_k1 W B x w0 w N at_ nm tb ts nu ar nil (.slice ta ys.length tc) (.slice la av.length lc) pb pi ls [] ys body init es va vc vs.length vs hW hA hD hrow hv rfl hvo (by omega) ho hs
   · exact it_k2 W B x w0 w N at_ nm tb ts nu ar (.slice va vs.length vc) nil (.slice la av.length lc) pb pi ls vs [] body init es ta tc ys.length ys hW hA hD hrow ht rfl hto ho hs
   · exact it_k3 W B x w0 w N at_ nm tb ts nu ar nil (.slice ta ys.length tc) (.slice la av.length lc) pb pi ls [] ys body init es va vc vs.length vs hW hA hD hrow hv rfl hvo ho hs
   · cases hb with
     | none=>exact absurd hbo (by simp)
     | some hsm =>
       rename_i sb
       exact it_k4 W B x w0 w N at_ nm tb ts nu ar nil (.slice ta ys.length tc) (.slice la av.length lc) pb pi ls [] ys none init es va vc vs.length vs sb hW hA hD hrow hv rfl hvo (stmt_told W B w0 pb sb hsm hbo) ho hs
   · cases ls with
     | false=>exact it_k5a W B x w0 w N at_ nm tb ts nu ar (.slice va vs.length vc) (.slice ta ys.length tc) nil pb pi false vs ys body none es la av.length lc init hW hA hD hrow tI ho hs
     | true=>exact it_k5b W B x w0 w N at_ nm tb ts nu ar (.slice va vs.length vc) (.slice ta ys.length tc) nil pb pi true vs ys body init [] la av.length lc es hW hA hD hrow tE ho hs
namespace Sy
theorem pars_depth (vs:List Vr) (x:Wr):(vs.foldl parF x).depth=x.depth:=by
 induction vs generalizing x with
 | nil=>rfl
 | cons v t ih =>
   show (t.foldl parF (parF x v)).depth=_;rw [ih];show (openP [tyM v.ty,v.name] x).depth - 1=_;rw [openP_depth]; omega
theorem flds_depth (vs:List Vr) (x:Wr):(vs.foldl fldF x).depth=x.depth:=by
 induction vs generalizing x with
 | nil=>rfl
 | cons v t ih =>
   show (t.foldl fldF (fldF x v)).depth=_;rw [ih];show (openP [tyM v.ty,v.name,decM v.num] x).depth - 1=_;rw [openP_depth]; omega
theorem tys_depth (vs:List Ty) (x:Wr):(vs.foldl tyF x).depth=x.depth:=by
 induction vs generalizing x with
 | nil=>rfl
 | cons v t ih=>show (t.foldl tyF (tyF x v)).depth=_; rw [ih]; rfl
theorem params_depth (vs:List Vr) (x:Wr):(paramsW vs x).depth=x.depth:=by
 show (vs.foldl parF (openP [] x)).depth - 1=_;rw [pars_depth,openP_depth]; omega
theorem it_depth (i:It) (x:Wr) (h:okI i=true):(itW i x).depth=x.depth:=by
 obtain ⟨kind,at_,v,vs,ys,body,init,es,ls⟩:=i;unfold okI at h;simp only [Bool.and_eq_true] at h;obtain ⟨hk,hbt,ho,hvo,hto,hio,heo,hbo⟩:=h;rw [decide_eq_true_eq] at hk;have hc:kind=1∨kind=2∨kind=3∨kind=4∨kind=5:=by omega
 rcases hc with rfl | rfl | rfl | rfl | rfl
 · show (vs.foldl fldF (openP [⟨#[115,116,114,117,99,116]⟩,v.name] x)).depth - 1=_;rw [flds_depth,openP_depth]; omega
 · show (ys.foldl tyF (openP [] (openP [⟨#[116,121,112,101,100,101,102]⟩,tyM v.ty,v.name] x))).depth - 1 - 1=_;rw [tys_depth,openP_depth,openP_depth]; omega
 · show (paramsW vs (openP [⟨#[112,114,111,116,111]⟩,tyM v.ty,v.name] x)).depth - 1=_;rw [params_depth,openP_depth]; omega
 · cases body with
   | none=>exact absurd hbo (by simp)
   | some b =>
     show (smW b (paramsW vs (openP [⟨#[102,117,110,99]⟩,tyM v.ty,v.name] x))).depth - 1=_;rw [sm_depth b _ hbo,params_depth,openP_depth]; omega
 · cases ls with
   | false =>
     show (optW init (openP [⟨#[118,97,114]⟩,tyM v.ty,v.name,decM v.num] x)).depth - 1=_;rw [opt_depth init _ hio,openP_depth]; omega
   | true =>
     show (exsW es (openP [⟨#[108,105,115,116]⟩] (openP [⟨#[118,97,114]⟩,tyM v.ty,v.name,decM v.num] x))).depth - 1 - 1=_;rw [exs_depth es _ heo,openP_depth,openP_depth]; omega
theorem it_mono (i:It) (x:Wr) (h:okI i=true):x.out.size≤(itW i x).out.size:=by
 obtain ⟨kind,at_,v,vs,ys,body,init,es,ls⟩:=i;unfold okI at h;simp only [Bool.and_eq_true] at h;obtain ⟨hk,hbt,ho,hvo,hto,hio,heo,hbo⟩:=h;rw [decide_eq_true_eq] at hk;have hc:kind=1∨kind=2∨kind=3∨kind=4∨kind=5:=by omega
 have f0:∀ {α:Type} (f:Wr→α→Wr) (hf:∀ x v,x.out.size≤(f x v).out.size) (l:List α) (x:Wr),x.out.size≤(l.foldl f x).out.size:=fun f hf l x=>by
  have e:=fold_le f hf l 0 x;rw [List.take_zero,List.foldl_nil] at e; exact e
 rcases hc with rfl | rfl | rfl | rfl | rfl
 · exact Nat.le_trans (openP_mono [⟨#[115,116,114,117,99,116]⟩,v.name] x) (Nat.le_trans (f0 fldF fldF_mono vs _) (close_mono _))
 · exact Nat.le_trans (Nat.le_trans (openP_mono [⟨#[116,121,112,101,100,101,102]⟩,tyM v.ty,v.name] x) (openP_mono [] _)) (Nat.le_trans (Nat.le_trans (f0 tyF tyF_mono ys _) (close_mono _)) (close_mono _))
 · exact Nat.le_trans (openP_mono [⟨#[112,114,111,116,111]⟩,tyM v.ty,v.name] x) (Nat.le_trans (params_mono vs _) (close_mono _))
 · cases body with
   | none=>exact absurd hbo (by simp)
   | some b=>exact Nat.le_trans (openP_mono [⟨#[102,117,110,99]⟩,tyM v.ty,v.name] x) (Nat.le_trans (params_mono vs _) (Nat.le_trans (sm_mono b _) (close_mono _)))
 · cases ls with
   | false=>exact Nat.le_trans (openP_mono [⟨#[118,97,114]⟩,tyM v.ty,v.name,decM v.num] x) (Nat.le_trans (opt_mono init _) (close_mono _))
   | true=>exact Nat.le_trans (openP_mono [⟨#[118,97,114]⟩,tyM v.ty,v.name,decM v.num] x) (Nat.le_trans (Nat.le_trans (openP_mono [⟨#[108,105,115,116]⟩] _) (exs_mono es _)) (Nat.le_trans (close_mono _) (close_mono _)))
end Sy
theorem str_list (s:ByteArray):Lib.strCells s=Lib.byteCells s.data.toList:=rfl
theorem cellsU8:Tryz.prog.cellsOf 5=1:=by kernel_rfl
theorem string_any (W B:Nat) (x:Sy.Wr) (w:World) (h:BW w W B x):Calls Tryz.prog 32 #[.pointer (some ⟨W,0,none⟩)] w fun e w'=>e=.returned (.string x.out)∧Keeps (fun q=>B≤q) w w':=by
 obtain ⟨p,v,hp,hr,ho,hn⟩:=h.ex;have hlo:=h.lo;have hB:=h.hB;have hr2:w.drew.heap[W]?=some (.cells #[.pointer p,v,.int .i64 x.depth,.int .i64 x.most,.bool x.fresh] 132 (0,0)):=hr;have c1:w.drew.cell? ⟨W,1,none⟩=some v:=by rw [cell_of_row w.drew W 1 _ _ _ hr2]; rfl
 have HKD:Hid (Keeps (fun q=>B≤q) w w.drew):=zz ((Keeps.refl _ w).drew);obtain ⟨out,hout⟩:∃ o,x.out=o:=⟨_,rfl⟩;rw [hout] at ho ⊢;rcases ho.2 with ⟨rfl,hz⟩ | ⟨g,cap,cur,rfl,hg,hbg,hnc,hcm,hcs,htake⟩
 · have he:out=⟨#[]⟩:=ByteArray.ext (Array.eq_empty_of_size_eq_zero hz);subst he;have hUS:(Builtin.unsafeString_ #[138,3] 9 #[.pointer none,.int .i64 0]).run Tryz.prog w.drew=.ok (.string .empty) w.drew:=Lib.run_unsafeString_none _ _ _ _ _;have hSD:(Builtin.unsafeSliceData_ #[28] 138 #[.slice none 0 0]).run Tryz.prog w.drew=.ok (.pointer none) w.drew:=rfl;clear h hr ho hn hr2 hp;go_enter Tryz.func32,Tryz.ntmps32;go_wp2;go_region
   all_goals (go_wp2; go_returns; exact ⟨rfl,HKD.out⟩)
 · by_cases h0:out.size=0
   · have he:out=⟨#[]⟩:=ByteArray.ext (Array.eq_empty_of_size_eq_zero h0);subst he;by_cases hc0:cap=0
     · subst hc0;have hUS:∀ W2 q,(Builtin.unsafeString_ #[138,3] 9 #[.pointer q,.int .i64 0]).run Tryz.prog W2=.ok (.string .empty) W2:=fun W2 q=>Lib.run_unsafeString_none _ _ _ _ _
       have hSD:(Builtin.unsafeSliceData_ #[28] 138 #[.slice (some ⟨g,0,none⟩) 0 0]).run Tryz.prog w.drew=.ok (.pointer (some ⟨w.drew.heap.size,0,none⟩)) (w.drew.alloc (.view ⟨g,0,none⟩ 5)) :=
        Lib.run_unsafeSliceData_zero w.drew _ _ 5 Tryz.underlying138 ⟨g,0,none⟩ 0 (5,cur.size) (by have hg':w.drew.heap[g]?=some (.cells cur 5 (0,0)):=hbg; simp [World.shape?,hg'])
       have hWl:W < w.heap.size:=h.lt;have c2:(w.alloc (.view ⟨g,0,none⟩ 5)).drew.cell? ⟨W,1,none⟩=some (.slice (some ⟨g,0,none⟩) 0 0):=by
        have e:(w.alloc (.view ⟨g,0,none⟩ 5)).drew.heap[W]?=_:=(Lib.alloc_old w _ W hWl).trans hr;rw [Lib.cell_of_heap e]; rfl
       have c3:(w.drew.alloc (.view ⟨g,0,none⟩ 5)).cell? ⟨W,1,none⟩=some (.slice (some ⟨g,0,none⟩) 0 0):=c2;have c0:w.cell? ⟨W,1,none⟩=some (.slice (some ⟨g,0,none⟩) 0 0):=c1;have HKA:Hid (∀ o,Keeps (fun q=>B≤q) w (w.alloc o).drew):=zz (fun o=>((Keeps.refl _ w).alloc o).drew);clear h hr ho hn hr2 hp hWl;go_enter Tryz.func32,Tryz.ntmps32;go_wp2;go_region
       all_goals (go_wp2; go_returns; exact ⟨rfl,HKA.out _⟩)
     · have hUS:(Builtin.unsafeString_ #[138,3] 9 #[.pointer (some ⟨g,0,none⟩),.int .i64 0]).run Tryz.prog w.drew=.ok (.string .empty) w.drew:=Lib.run_unsafeString_none _ _ _ _ _;have hSD:(Builtin.unsafeSliceData_ #[28] 138 #[.slice (some ⟨g,0,none⟩) 0 cap]).run Tryz.prog w.drew=.ok (.pointer (some ⟨g,0,none⟩)) w.drew:=Lib.run_unsafeSliceData_row _ _ _ _ _ _ hc0;clear hc0 h hr ho hn hr2 hp;go_enter Tryz.func32,Tryz.ntmps32;go_wp2;go_region
       all_goals (go_wp2; go_returns; exact ⟨rfl,HKD.out⟩)
   · have hSD:(Builtin.unsafeSliceData_ #[28] 138 #[.slice (some ⟨g,0,none⟩) out.size cap]).run Tryz.prog w.drew=.ok (.pointer (some ⟨g,0,none⟩)) w.drew :=
      Lib.run_unsafeSliceData_row _ _ _ _ _ _ (by omega)
     have hl0:out.data.toList≠[]:=fun e=>h0 (by show out.data.size=0; rw [← Array.length_toList,e]; rfl)
     have hls:out.data.toList.length=out.size:=by rw [Array.length_toList]; rfl
     have hUS:(Builtin.unsafeString_ #[138,3] 9 #[.pointer (some ⟨g,0,none⟩),.int .i64 out.size]).run Tryz.prog w.drew=.ok (.string out) (w.drew.freeze ⟨g,0,none⟩ out.size):=by
      have e:=Lib.run_unsafeString_row w.drew 138 3 9 5 Tryz.underlying138 cellsU8 g cur.size (by have hg':w.drew.heap[g]?=some (.cells cur 5 (0,0)):=hbg; simp [World.shape?,hg']) out.data.toList hl0 (by omega) (by unfold maxLen at hcm; omega) (fun j y hy=>by
       have:=ho.cells (g:=g) rfl j (.int .u8 y.toNat) (by rw [str_list]; simp [Lib.byteCells,hy]);exact this)
      rw [hls] at e;exact e
     have HKF:Hid (Keeps (fun q=>B≤q) w (w.drew.freeze ⟨g,0,none⟩ out.size)):=zz (by
      have e:=Lib.below_freeze (B:=B) (Below.drew (Below.refl B w)) (p:=⟨g,0,none⟩) hg out.size;exact ⟨e.os,e.tape,e.output,e.size,fun k hk hn=>e.block k (by omega)⟩)
     clear h hr ho hn hr2 hp hl0 hls hbg htake;go_enter Tryz.func32,Tryz.ntmps32;go_wp2;go_region
     all_goals (go_wp2; go_returns; exact ⟨rfl,HKF.out⟩)
theorem reset_any (W B:Nat) (x:Sy.Wr) (w:World) (h:WE w W B x) (hd:x.depth=0):Calls Tryz.prog 46 #[.pointer (some ⟨W,0,none⟩)] w fun e w'=>e=.returned (.tuple #[])∧WX w w' W B { x with out:=Sy.nt }:=by
 obtain ⟨p,v,hp,hr,ho,hn⟩:=h.bw.ex;have c0:w.cell? ⟨W,0,none⟩=some (.pointer p):=by rw [cell_of_row w W 0 _ _ _ hr]; rfl
 have c1:w.cell? ⟨W,1,none⟩=some v:=by rw [cell_of_row w W 1 _ _ _ hr]; rfl
 have f0:w.frozen? ⟨W,0,none⟩=false:=frozen_of_row w W 0 _ _ hr;have f1:w.frozen? ⟨W,1,none⟩=false:=frozen_of_row w W 1 _ _ hr;have hr1:(w.setCell ⟨W,0,none⟩ (.pointer none)).heap[W]?=some (.cells #[.pointer none,v,.int .i64 x.depth,.int .i64 x.most,.bool x.fresh] 132 (0,0)):=by rw [heap_setCell_same w W 0 _ _ _ hr]; rfl
 have hk:Keeps (U8 w B W) w ((w.setCell ⟨W,0,none⟩ (.pointer none)).setCell ⟨W,1,none⟩ (.slice none 0 0)):=((Keeps.refl _ _).setCell (p:=⟨W,0,none⟩) (.inl (.inl rfl)) _).setCell (p:=⟨W,1,none⟩) (.inl (.inl rfl)) _;have HFA:Hid (WX w ((w.setCell ⟨W,0,none⟩ (.pointer none)).setCell ⟨W,1,none⟩ (.slice none 0 0)) W B { x with out:=Sy.nt }):=Lib.hid
  ⟨⟨⟨⟨none,.slice none 0 0,.inl rfl,by rw [heap_setCell_same _ W 1 _ _ _ hr1]; rfl,World.ownsRow_nil _ _ _ _,fun q hq=>nomatch hq⟩,h.bw.lo,by have:=h.bw.hB; simpa [World.setCell] using this⟩,h.lp.u8 hk h.gb h.bw.lo,h.gb,⟨by show -(0:Int)≤x.depth; omega,by show x.depth≤0; omega,h.iv.2.2.1,h.iv.2.2.2⟩⟩,hk⟩
 obtain ⟨av,ac,rfl,_⟩:=own_form ho;clear hr hr1 hk ho hn hp h hd;go_enter Tryz.func46,Tryz.ntmps46;go_wp2_with fail;go_returns;exact ⟨rfl,HFA.out⟩
namespace Sy
def dumpF (x:Wr) (i:It):Wr:={ itW i x with out:=(itW i x).out++⟨#[10]⟩,fresh:=true }
def depthF (x:Wr) (i:It):Wr:={ itW i x with out:=nt,fresh:=true }
theorem dumpL_eq (l:List It):dumpL l=(l.foldl dumpF ⟨nt,0,0,true⟩).out:=rfl
theorem depthM_eq (l:List It):depthM l=(l.foldl depthF ⟨nt,0,0,true⟩).most:=rfl
theorem dumpF_size (x:Wr) (i:It):(dumpF x i).out.size=(itW i x).out.size+1:=by
 show ((itW i x).out++(⟨#[10]⟩:ByteArray)).size=_;rw [ByteArray.size_append]; rfl
theorem dumps_le (l:List It) (hl:∀ i∈l,okI i=true) (x:Wr):x.out.size≤(l.foldl dumpF x).out.size:=by
 induction l generalizing x with
 | nil=>exact Nat.le_refl _
 | cons a t ih =>
   have h1:=it_mono a x (hl a (List.mem_cons_self ..));have h2:=dumpF_size x a;exact Nat.le_trans (by omega) (ih (fun i hi=>hl i (List.mem_cons_of_mem _ hi)) (dumpF x a))
theorem dumps_take (l:List It) (hl:∀ i∈l,okI i=true) (k:Nat) (x:Wr):((l.take k).foldl dumpF x).out.size≤(l.foldl dumpF x).out.size:=by
 have e:l.foldl dumpF x=(l.drop k).foldl dumpF ((l.take k).foldl dumpF x):=by rw [← List.foldl_append,List.take_append_drop]
 rw [e]; exact dumps_le _ (fun i hi=>hl i (List.mem_of_mem_drop hi)) _
theorem depths_zero (l:List It) (hl:∀ i∈l,okI i=true) (x:Wr) (hx:x.depth=0):(l.foldl depthF x).depth=0:=by
 induction l generalizing x with
 | nil=>exact hx
 | cons a t ih=>exact ih (fun i hi=>hl i (List.mem_cons_of_mem _ hi)) (depthF x a) ((it_depth a x (hl a (List.mem_cons_self ..))).trans hx)
end Sy
theorem fresh_writer (w:World) (hl:LaidP w):WE (w.alloc (.cells #[.pointer none,.slice none 0 0,.int .i64 0,.int .i64 0,.bool true] 132)) w.heap.size w.heap.size (⟨Sy.nt,0,0,true⟩:Sy.Wr) :=
 ⟨⟨⟨none,.slice none 0 0,.inl rfl,heap_alloc_new _ _,World.ownsRow_nil _ _ _ _,fun q hq=>nomatch hq⟩,Nat.le_refl _,by simp⟩,hl.no ((Keeps.refl _ _).alloc _),hl.blk,⟨by decide,by decide,by decide,by decide⟩⟩
theorem depth_any (w:World) (sa:Option Addr) (sc:Nat) (av:List (Option Addr)) (is:List Sy.It) (hl:LaidP w) (hr:RwD w (fun q=>q < w.heap.size) 69 1 (.slice sa av.length sc) av.length (ptrs av)) (hn:av.length=is.length)
    (hi:∀ (k:Nat) (a:Option Addr) (i:Sy.It),av[k]?=some a→is[k]?=some i→ItD w (fun q=>q < w.heap.size) a i) (ho:∀ i∈is,Sy.okI i=true) (hs:∀ i∈is,∀ x:Sy.Wr,x.out=Sy.nt→x.fresh=true→(Sy.itW i x).out.size≤BIG) :
    Calls Tryz.prog 25 #[.slice sa av.length sc] w fun e w'=>e=.returned (.int .i64 (Sy.depthM is))∧Keeps No w w':=by
 have HR:=zz hr;have HI:=zz hi;have HOK:=zz ho;have HSZ:=zz hs;have HL:=zz hn;have hnb:=own_max hr.own;obtain ⟨n,hnn⟩:∃ n,av.length=n:=⟨_,rfl⟩;have HN:=zz hnn;have HW0:=zz (fresh_writer w hl);have HA0:Hid (Agr w.heap.size w (w.alloc (.cells #[.pointer none,.slice none 0 0,.int .i64 0,.int .i64 0,.bool true] 132))):=zz ((Agr.refl _ w).no ((Keeps.refl _ w).alloc _));have HK0:Hid (Keeps No w (w.alloc (.cells #[.pointer none,.slice none 0 0,.int .i64 0,.int .i64 0,.bool true] 132))):=zz ((Keeps.refl _ w).alloc _);rw [hnn] at HR HL hnb ⊢;clear hr hi ho hs hn hnn hl;go_enter Tryz.func25,Tryz.ntmps25;go_upto_region 2 with fail
 generalize w.alloc (.cells #[.pointer none,.slice none 0 0,.int .i64 0,.int .i64 0,.bool true] 132)=w1 at HW0 HA0 HK0 ⊢;obtain ⟨W,hW⟩:∃ q,w.heap.size=q:=⟨_,rfl⟩;have HWS:=zz hW;rw [hW] at HW0 HA0 HR HI ⊢;clear hW;go_wp2_with fail;go_loopg [10] n (fun gg u wr=>∃ i:Nat,u=.int .i64 (i:Int)∧i≤n∧gg=n - i∧Hid (WX w1 wr W W ((is.take i).foldl Sy.depthF (⟨Sy.nt,0,0,true⟩:Sy.Wr))))
 case atStart=>exact ⟨0,rfl,by omega,by omega,zz (WX.refl HW0.out)⟩
 case round =>
  obtain ⟨i,rfl,hi,rfl,HXR⟩:=hrel;by_cases hlt:i < n
  · obtain ⟨a,hav⟩:∃ a,av[i]?=some a:=⟨_,List.getElem?_eq_getElem (by have:=HN.out; omega)⟩;obtain ⟨e1,hes⟩:∃ e,is[i]?=some e:=⟨_,List.getElem?_eq_getElem (by have:=HL.out; omega)⟩;have hlt1:(i:Int) < (n:Int):=by omega
    have hag:=HA0.out.wx HXR.out;have how:=hag.own HR.out;obtain ⟨g,hg⟩:∃ g,sa=some ⟨g,0,none⟩:=by
     obtain ⟨aa,ca,e2,h2⟩:=own_form how;obtain ⟨g,hg⟩:=h2 (by omega);injection e2 with e2;exact ⟨g,e2.trans hg⟩
    subst hg;have cg:wr.cell? ⟨g,i,none⟩=some (.pointer a):=by
     have:=how.cells (g:=g) rfl i (.pointer a) (by unfold ptrs; rw [List.getElem?_map,hav]; rfl);rw [Lib.add_plain,Nat.zero_add] at this; exact this
    have hoke:=HOK.out e1 (List.mem_of_getElem? hes);have hstep:(is.take (i+1)).foldl Sy.depthF (⟨Sy.nt,0,0,true⟩:Sy.Wr)=Sy.depthF ((is.take i).foldl Sy.depthF (⟨Sy.nt,0,0,true⟩:Sy.Wr)) e1:=by
     rw [List.take_add_one,hes,List.foldl_append]; rfl
    obtain ⟨xr,hxr⟩:∃ x',(is.take i).foldl Sy.depthF (⟨Sy.nt,0,0,true⟩:Sy.Wr)=x':=⟨_,rfl⟩;have HST:=zz hstep;have hx0:xr.out=Sy.nt∧xr.fresh=true:=by
     rw [← hxr];rcases Nat.eq_zero_or_pos i with e | e
     · subst e; exact ⟨rfl,rfl⟩
     · obtain ⟨k,rfl⟩:∃ k,i=k+1:=⟨i - 1,by omega⟩;obtain ⟨y,hy⟩:∃ y,is[k]?=some y:=⟨_,List.getElem?_eq_getElem (by have:=HL.out; omega)⟩;rw [List.take_add_one,hy,List.foldl_append]; exact ⟨rfl,rfl⟩
    have hd0:(Sy.itW e1 xr).depth=0:=by
     rw [Sy.it_depth e1 xr hoke,← hxr];exact Sy.depths_zero _ (fun j hj=>HOK.out j (List.mem_of_mem_take hj)) _ rfl
    have HD0:=zz hd0;have hbi:=HSZ.out e1 (List.mem_of_getElem? hes) xr hx0.1 hx0.2;rw [hxr] at HXR HST;have HCC:=zz (item_told W W w a e1 (HI.out i a e1 hav hes) hoke wr xr hag HXR.out.p hbi);clear hav hes hag how hoke hstep hbi hx0 hd0 hxr;go_wp2_with fail;refine HCC.out.mono ?_;rintro e w5 ⟨rfl,hx⟩;have HX5:=zz (HXR.out.trans hx);clear hx cg;go_wp2_with fail;refine (reset_any W W (Sy.itW e1 xr) w5 HX5.out.p HD0.out).mono ?_;rintro e w6 ⟨rfl,hx⟩;have HX6:=zz (HX5.out.trans hx);clear hx;have c4:w6.cell? ⟨W,4,none⟩=some (.bool (Sy.itW e1 xr).fresh):=HX6.out.p.cc 4 _ (.inr (.inr ⟨rfl,rfl⟩));have z4:w6.frozen? ⟨W,4,none⟩=false:=HX6.out.p.ff 4;go_upto_region 8 with fail
    have HX7:Hid (WX w1 (w6.setCell ⟨W,4,none⟩ (.bool true)) W W ((is.take (i+1)).foldl Sy.depthF (⟨Sy.nt,0,0,true⟩:Sy.Wr))):=zz (by
     rw [HST.out];exact HX6.out.trans (HX6.out.p.set 4 (.bool true) (Sy.depthF xr e1) rfl (.inr (.inr ⟨rfl,rfl,rfl,rfl⟩)) HX6.out.p.iv))
    generalize w6.setCell ⟨W,4,none⟩ (.bool true)=w7 at HX7 ⊢;clear c4 z4;go_wp2_with fail;go_roundg (n - (i+1))
    case rel=>exact ⟨i+1,by go_num,by omega,rfl,HX7⟩
    case measure=>omega
  · have hlt1:¬ (i:Int) < (n:Int):=by omega
    have HXE:Hid (WX w1 wr W W (is.foldl Sy.depthF (⟨Sy.nt,0,0,true⟩:Sy.Wr))):=zz (by
     have e:=HXR.out;rw [List.take_of_length_le (by have:=HL.out; omega)] at e;exact e)
    have HKE:Hid (Keeps No w wr):=zz (HK0.out.trans HXE.out.k (fun q hq e=>by
     have h1:=HWS.out;rcases e with e | e
     · omega
     · have:=e.1; omega))
    clear HXR;obtain ⟨md,hmd⟩:∃ m,(is.foldl Sy.depthF (⟨Sy.nt,0,0,true⟩:Sy.Wr)).most=m:=⟨_,rfl⟩;have c3:wr.cell? ⟨W,3,none⟩=some (.int .i64 md):=HXE.out.p.cc 3 _ (.inr (.inl ⟨rfl,by rw [hmd]⟩));have HMD:Hid (Sy.depthM is=md):=zz (by rw [Sy.depthM_eq]; exact hmd);clear hmd;go_wp2_with fail;go_returns;exact ⟨by rw [HMD.out]; rfl,HKE.out⟩
end Go.Proofs.YtjgkacggjhobmaaGreatDoor
namespace Go.Proofs.YtjgkacggjhobmaaGreatDoor.Sy
open Go.RowKit Lx
def Sim (x y:Wr):Prop:=x.out=y.out∧x.fresh=y.fresh
theorem part_sim {x y:Wr} (h:Sim x y) (s:ByteArray):Sim (partW s x) (partW s y):=by
 refine ⟨?_,rfl⟩;show (if x.fresh then x.out else x.out++⟨#[32]⟩)++s=(if y.fresh then y.out else y.out++⟨#[32]⟩)++s;rw [h.1,h.2]
theorem open_sim {x y:Wr} (h:Sim x y):Sim (openW x) (openW y):=⟨(part_sim h ⟨#[40]⟩).1,rfl⟩
theorem close_sim {x y:Wr} (h:Sim x y):Sim (closeW x) (closeW y):=⟨by show x.out++_=y.out++_; rw [h.1],rfl⟩
theorem parts_sim (l:List ByteArray) {x y:Wr} (h:Sim x y):Sim (partsW l x) (partsW l y):=by
 induction l generalizing x y with
 | nil=>exact h
 | cons a t ih=>exact ih (part_sim h a)
theorem openP_sim (l:List ByteArray) {x y:Wr} (h:Sim x y):Sim (openP l x) (openP l y):=parts_sim l (open_sim h)
theorem head_sim (o:Option (List ByteArray)) {x y:Wr} (h:Sim x y):Sim (headW o x) (headW o y):=by
 cases o with
 | none=>exact h
 | some l=>exact openP_sim l h
theorem ite_sim {c:Prop} [Decidable c] {a a' b b':Wr} (h1:c→Sim a b) (h2:¬ c→Sim a' b'):Sim (if c then a else a') (if c then b else b'):=by
 by_cases h:c
 · rw [if_pos h,if_pos h]; exact h1 h
 · rw [if_neg h,if_neg h]; exact h2 h
mutual
theorem ex_sim:∀ (e:Ex) {x y:Wr},Sim x y→Sim (exW e x) (exW e y)
 | .mk kind op name ty num arr subs,x,y,h=>by
   unfold exW;simp only;refine close_sim ?_;have h1:=exs_sim subs (head_sim (exHead kind op name ty num) h);split
   · exact part_sim h1 _
   · exact h1
theorem exs_sim:∀ (l:List Ex) {x y:Wr},Sim x y→Sim (exsW l x) (exsW l y)
 | [],x,y,h=>by unfold exsW; exact h
 | e::t,x,y,h=>by unfold exsW; exact exs_sim t (ex_sim e h)
end
theorem opt_sim (e:Option Ex) {x y:Wr} (h:Sim x y):Sim (optW e x) (optW e y):=by
 cases e with
 | none=>exact part_sim h _
 | some e=>exact ex_sim e h
mutual
theorem sm_sim:∀ (s:Sm) {x y:Wr},Sim x y→Sim (smW s x) (smW s y)
 | .mk kind v name minus num e0 e1 e2 body,x,y,h=>by
   have h0:=openP_sim [heads.getD kind.toNat nt] h;have hb:=fun {x y:Wr} (h:Sim x y)=>sms_sim body h
   unfold smW;refine close_sim ?_;refine ite_sim (fun _=>hb h0) (fun _=>?_);refine ite_sim (fun _=>opt_sim e0 (part_sim (part_sim (part_sim h0 _) _) _)) (fun _=>?_);refine ite_sim (fun _=>ite_sim (fun _=>part_sim (hb (opt_sim e0 h0)) _) (fun _=>hb (opt_sim e0 h0))) (fun _=>?_);refine ite_sim (fun _=>hb (opt_sim e0 h0)) (fun _=>?_);refine ite_sim (fun _=>opt_sim e0 (hb h0)) (fun _=>?_);refine ite_sim (fun _=>hb (opt_sim e2 (opt_sim e1 (opt_sim e0 h0)))) (fun _=>?_);refine ite_sim (fun _=>ite_sim (fun _=>part_sim h0 _) (fun _=>part_sim h0 _)) (fun _=>?_);refine ite_sim (fun _=>opt_sim e0 h0) (fun _=>?_);refine ite_sim (fun _=>part_sim h0 _) (fun _=>?_);exact ite_sim (fun _=>hb (part_sim h0 _)) (fun _=>h0)
theorem sms_sim:∀ (l:List Sm) {x y:Wr},Sim x y→Sim (smsW l x) (smsW l y)
 | [],x,y,h=>by unfold smsW; exact h
 | e::t,x,y,h=>by unfold smsW; exact sms_sim t (sm_sim e h)
end
theorem fold_sim {α:Type} (f:Wr→α→Wr) (hf:∀ {x y:Wr} (v:α),Sim x y→Sim (f x v) (f y v)) (l:List α) {x y:Wr} (h:Sim x y):Sim (l.foldl f x) (l.foldl f y):=by
 induction l generalizing x y with
 | nil=>exact h
 | cons a t ih=>exact ih (hf a h)
theorem parF_sim {x y:Wr} (v:Vr) (h:Sim x y):Sim (parF x v) (parF y v):=close_sim (openP_sim _ h)
theorem fldF_sim {x y:Wr} (v:Vr) (h:Sim x y):Sim (fldF x v) (fldF y v):=close_sim (openP_sim _ h)
theorem tyF_sim {x y:Wr} (v:Ty) (h:Sim x y):Sim (tyF x v) (tyF y v):=part_sim h _
theorem params_sim (l:List Vr) {x y:Wr} (h:Sim x y):Sim (paramsW l x) (paramsW l y):=by
 show Sim (closeW (l.foldl parF (openP [] x))) (closeW (l.foldl parF (openP [] y)));exact close_sim (fold_sim parF (fun v h=>parF_sim v h) l (openP_sim [] h))
theorem it_sim (i:It) {x y:Wr} (h:Sim x y) (hok:okI i=true):Sim (itW i x) (itW i y):=by
 obtain ⟨kind,at_,v,vs,ys,body,init,es,ls⟩:=i;unfold okI at hok;simp only [Bool.and_eq_true] at hok;obtain ⟨hk,hbt,ho,hvo,hto,hio,heo,hbo⟩:=hok;rw [decide_eq_true_eq] at hk;have hc:kind=1∨kind=2∨kind=3∨kind=4∨kind=5:=by omega
 rcases hc with rfl | rfl | rfl | rfl | rfl
 · show Sim (closeW (vs.foldl fldF (openP [⟨#[115,116,114,117,99,116]⟩,v.name] x))) (closeW (vs.foldl fldF (openP [⟨#[115,116,114,117,99,116]⟩,v.name] y)));exact close_sim (fold_sim fldF (fun v h=>fldF_sim v h) _ (openP_sim _ h))
 · show Sim (closeW (closeW (ys.foldl tyF (openP [] (openP [⟨#[116,121,112,101,100,101,102]⟩,tyM v.ty,v.name] x))))) (closeW (closeW (ys.foldl tyF (openP [] (openP [⟨#[116,121,112,101,100,101,102]⟩,tyM v.ty,v.name] y)))));exact close_sim (close_sim (fold_sim tyF (fun v h=>tyF_sim v h) _ (openP_sim _ (openP_sim _ h))))
 · show Sim (closeW (paramsW vs (openP [⟨#[112,114,111,116,111]⟩,tyM v.ty,v.name] x))) (closeW (paramsW vs (openP [⟨#[112,114,111,116,111]⟩,tyM v.ty,v.name] y)));exact close_sim (params_sim _ (openP_sim _ h))
 · cases body with
   | none=>exact absurd hbo (by simp)
   | some b =>
     show Sim (closeW (smW b (paramsW vs (openP [⟨#[102,117,110,99]⟩,tyM v.ty,v.name] x)))) (closeW (smW b (paramsW vs (openP [⟨#[102,117,110,99]⟩,tyM v.ty,v.name] y))));exact close_sim (sm_sim b (params_sim _ (openP_sim _ h)))
 · cases ls with
   | false =>
     show Sim (closeW (optW init (openP [⟨#[118,97,114]⟩,tyM v.ty,v.name,decM v.num] x))) (closeW (optW init (openP [⟨#[118,97,114]⟩,tyM v.ty,v.name,decM v.num] y)));exact close_sim (opt_sim _ (openP_sim _ h))
   | true =>
     show Sim (closeW (closeW (exsW es (openP [⟨#[108,105,115,116]⟩] (openP [⟨#[118,97,114]⟩,tyM v.ty,v.name,decM v.num] x))))) (closeW (closeW (exsW es (openP [⟨#[108,105,115,116]⟩] (openP [⟨#[118,97,114]⟩,tyM v.ty,v.name,decM v.num] y)))));exact close_sim (close_sim (exs_sim _ (openP_sim _ (openP_sim _ h))))
def tkOk (t:Tk):Bool:=decide (t.text.size≤1000000∧t.suf.size≤1000000∧0≤t.num∧t.num≤18446744073709551615)
def itemsOf (s:ByteArray):List It × St:=itemsM ⟨(tokensM s).l,s.size⟩ ((tokensM s).l.length+1) ⟨0,[],0,0⟩ []
def parseOk (s:ByteArray):Bool :=
 decide (s.size≤1000000∧(tokensM s).l.length≤6000)&&((tokensM s).l.all tkOk &&
  (if (tokensM s).code≠0 then true else if (itemsOf s).2.code≠0 then true else
   (itemsOf s).1.all okI&&((itemsOf s).1.all (fun i=>decide ((itW i ⟨nt,0,0,true⟩).out.size≤BIG))&&decide ((dumpL (itemsOf s).1).size≤BIG))))
end Go.Proofs.YtjgkacggjhobmaaGreatDoor.Sy
namespace Go.Proofs.YtjgkacggjhobmaaGreatDoor.L
open Go.RowKit
theorem rb {v:Value} {a b:Bool} (hv:v=.bool a) (h:a=b):Ending.returned v=.returned (.bool b):=by rw [hv,h]
theorem ri {v:Value} {k:IntKind} {a b:Int} (hv:v=.int k a) (h:a=b):Ending.returned v=.returned (.int k b):=by rw [hv,h]
structure Sc (p:Nat) (s:ByteArray) (i:Nat) (w0 w:World):Prop where
 g:w0.grownBy w (some p)
 a:w.heap[p]?=some (.cells #[.string s,.int .i64 (i:Int)] 122 (0,0))
theorem grown_trans {a b c:World} {r:Option Nat} (h:a.grownBy b r) (k:b.grownBy c r):a.grownBy c r :=
 ⟨k.os.trans h.os,k.tape.trans h.tape,k.output.trans h.output,Nat.le_trans h.size k.size,fun q hq hr=>(k.block q (Nat.lt_of_lt_of_le hq h.size) hr).trans (h.block q hq hr)⟩
theorem grown_refl (w:World) (r:Option Nat):w.grownBy w r:=⟨rfl,rfl,rfl,Nat.le_refl _,fun _ _ _=>rfl⟩
theorem grown_drew {a w:World} {r:Option Nat} (h:a.grownBy w r):a.grownBy w.drew r:=⟨h.os,h.tape,h.output,h.size,h.block⟩
theorem grown_set {a w:World} {p:Nat} (h:a.grownBy w (some p)) (o:Nat) (u:Value):a.grownBy (w.setCell ⟨p,o,none⟩ u) (some p) :=
 grown_trans h ⟨rfl,rfl,rfl,by simp [World.setCell],fun k hk hne=>Below.heap_setCell _ _ _ _ (by intro e; subst e; exact hne rfl)⟩
section
variable {p:Nat} {s:ByteArray} {i:Nat} {w0 w:World}
theorem Sc.lt (h:Sc p s i w0 w):p < w.heap.size:=(Array.getElem?_eq_some_iff.1 h.a).1
theorem Sc.c0 (h:Sc p s i w0 w):w.cell? ⟨p,0,none⟩=some (.string s):=by simp [World.cell?,h.a]
theorem Sc.c1 (h:Sc p s i w0 w):w.cell? ⟨p,1,none⟩=some (.int .i64 (i:Int)):=by simp [World.cell?,h.a]
theorem Sc.f (h:Sc p s i w0 w) (o:Nat):w.frozen? ⟨p,o,none⟩=false:=by simp [World.frozen?,h.a]
theorem Sc.alloc (h:Sc p s i w0 w) (o:Obj):Sc p s i w0 (w.alloc o) :=
 ⟨grown_trans h.g (World.grownBy_alloc w o _),(Below.heap_alloc w o p h.lt).trans h.a⟩
theorem Sc.drew (h:Sc p s i w0 w):Sc p s i w0 w.drew:=⟨grown_drew h.g,h.a⟩
theorem Sc.drewN (h:Sc p s i w0 w) (n:Nat):Sc p s i w0 (w.drewN n):=⟨⟨h.g.os,h.g.tape,h.g.output,h.g.size,h.g.block⟩,h.a⟩
theorem Sc.set (h:Sc p s i w0 w) (j:Nat):Sc p s j w0 (w.setCell ⟨p,1,none⟩ (.int .i64 (j:Int))) :=
 ⟨grown_set h.g _ _,by simp [World.setCell,Array.getElem?_modify,h.a]⟩
theorem Sc.setI (h:Sc p s i w0 w) {v:Int} {j:Nat} (hv:v=(j:Int)):Sc p s j w0 (w.setCell ⟨p,1,none⟩ (.int .i64 v)):=by rw [hv]; exact h.set j
theorem Sc.refl (h:Sc p s i w0 w):Sc p s i w w:=⟨grown_refl w _,h.a⟩
theorem Sc.onto {j:Nat} {w':World} (h:Sc p s i w0 w) (k:Sc p s j w w'):Sc p s j w0 w':=⟨grown_trans h.g k.g,k.a⟩
end
theorem Sc.setq {p:Nat} {s:ByteArray} {i:Nat} {w0 w:World} (h:Sc p s i w0 w) {q:Nat} (hq:w0.heap.size≤q) (hqp:q≠p) (o:Nat) (u:Value):Sc p s i w0 (w.setCell ⟨q,o,none⟩ u) :=
 ⟨⟨h.g.os,h.g.tape,h.g.output,by have:=h.g.size; simpa [World.setCell] using this,fun k hk hr=>(Below.heap_setCell _ _ _ _ (fun e=>by have e':k=q:=e; omega)).trans (h.g.block k hk hr)⟩,
  (Below.heap_setCell _ _ _ _ (fun e=>hqp e.symm)).trans h.a⟩
theorem Sc.other {p:Nat} {s:ByteArray} {i:Nat} {w0 w:World} (h:Sc p s i w0 w) {q:Nat} (hq:q < w0.heap.size) (hqp:q≠p):w.heap[q]?=w0.heap[q]?:=h.g.block q hq (by simpa using hqp)
structure TokAt (q:Nat) (w:World):Prop where
 a:w.heap[q]?=some (.cells #[.int .i64 0,.int .i64 0,.string ⟨#[]⟩,.string ⟨#[]⟩,.int .u64 0,.bool false] 83 (0,0))
theorem TokAt.cells {q:Nat} {w:World} (h:TokAt q w):w.cell? ⟨q,0,none⟩=some (.int .i64 0)∧w.cell? ⟨q,1,none⟩=some (.int .i64 0)∧w.cell? ⟨q,2,none⟩=some (.string ⟨#[]⟩)∧w.cell? ⟨q,3,none⟩=some (.string ⟨#[]⟩)∧w.cell? ⟨q,4,none⟩=some (.int .u64 0)∧w.cell? ⟨q,5,none⟩=some (.bool false)∧(∀ o,w.frozen? ⟨q,o,none⟩=false):=by
 refine ⟨?_,?_,?_,?_,?_,?_,fun o=>?_⟩ <;> simp [World.cell?,World.frozen?,h.a]
theorem TokAt.made (w:World):TokAt w.heap.size (w.alloc (.cells #[.int .i64 0,.int .i64 0,.string ⟨#[]⟩,.string ⟨#[]⟩,.int .u64 0,.bool false] 83)) :=
 ⟨heap_alloc_new w _⟩
theorem TokAt.on {p q:Nat} {s:ByteArray} {i:Nat} {w0 w:World} (t:TokAt q w0) (h:Sc p s i w0 w) (hq:q < w0.heap.size) (hqp:q≠p):TokAt q w:=⟨(h.other hq hqp).trans t.a⟩
structure ScW (p:Nat) (s:ByteArray) (i:Nat) (w0:World) where
 W:World
 h:Sc p s i w0 W
theorem sc_call {p:Nat} {s:ByteArray} {i:Nat} {w0:World} (u:ScW p s i w0) {F:FuncId} {args:Array Value} {v:Value}
    (h:Calls Tryz.prog F args u.W fun e w'=>e=.returned v∧Sc p s i w0 w'):Calls Tryz.prog F args u.W fun e w''=>e=.returned v∧∃ m:ScW p s i w0,w''=m.W :=
 h.mono fun e w' ⟨he,hg⟩=>⟨he,⟨w',hg⟩,rfl⟩
theorem wp_region_class {P:Program} {C:World→Prop} {id:Nat} {Q:Exit→Act→World→Prop} {a:Act} {w:World} {l:List Oper} (hm:P.follows .mixedOrders=true) (hB:Region.lexB .any l.toArray=true) (hC:C { w with drawn:=w.drawn+1 })
    (h:wpQuiet P l.toArray C (fun a'=>∀ w',C w'→Q .normal a' w') l a):(Code.region id l.toArray true).wp P Q a w :=
 wp_region_quiet hm hB hC h
theorem peek_in (p:Nat) (s:ByteArray) (i k:Nat) (o:Int) (ho:0≤o) (hk:(i:Int)+o=k) (hlt:k < s.size) (hs:s.size≤maxLen) (w0 w:World) (h:Sc p s i w0 w) :
    Calls Tryz.prog 56 #[.pointer (some ⟨p,0,none⟩),.int .i64 o] w fun e w'=>e=.returned (.int .u8 (Lx.pk s k))∧Sc p s i w0 w':=by
 unfold maxLen at hs;have HS:=zz h;have c0:=h.c0;have c1:=h.c1;have hk1:(i:Int)+o < (s.size:Int):=by omega
 have hk0:0≤(i:Int)+o:=by omega
 have hkn:((i:Int)+o).toNat=k:=by omega
 have hp:=Lx.pk_lt hlt;have HP:=zz hp;clear hp h;go_enter Tryz.func56,Tryz.ntmps56;go_wp2_with fail;go_quiet (fail);go_wp2_with fail;go_quiet (fail);go_wp2_with fail;go_returns;exact ⟨ri rfl HP.out.symm,(HS.out.drewN _).drewN _⟩
theorem peek_out (p:Nat) (s:ByteArray) (i k:Nat) (o:Int) (ho:0≤o∧o≤100) (hk:(i:Int)+o=k) (hge:¬ k < s.size) (hi:i≤s.size) (hs:s.size≤4611686018427387904) (w0 w:World) (h:Sc p s i w0 w) :
    Calls Tryz.prog 56 #[.pointer (some ⟨p,0,none⟩),.int .i64 o] w fun e w'=>e=.returned (.int .u8 (Lx.pk s k))∧Sc p s i w0 w':=by
 have HS:=zz h;have c0:=h.c0;have c1:=h.c1;have hk1:¬ (i:Int)+o < (s.size:Int):=by omega
 have hk0:0≤(i:Int)+o:=by omega
 have hp:=Lx.pk_ge hge;have HP:=zz hp;clear hp h;go_enter Tryz.func56,Tryz.ntmps56;go_wp2_with fail;go_quiet (fail);go_wp2_with fail;go_returns;exact ⟨ri rfl HP.out.symm,(HS.out.drewN _)⟩
theorem peek_as (p:Nat) (s:ByteArray) (i k:Nat) (o c:Int) (ho:0≤o∧o≤100) (hk:(i:Int)+o=k) (hi:i≤s.size) (hs:s.size≤4611686018427387904) (HC:Hid (Lx.pk s k=c)) (w0 w:World) (h:Sc p s i w0 w) :
    Calls Tryz.prog 56 #[.pointer (some ⟨p,0,none⟩),.int .i64 o] w fun e w'=>e=.returned (.int .u8 c)∧Sc p s i w0 w':=by
 rw [← HC.out];by_cases hlt:k < s.size
 · exact peek_in p s i k o ho.1 hk hlt (by unfold maxLen; omega) w0 w h
 · exact peek_out p s i k o ho hk hlt hi hs w0 w h
end Go.Proofs.YtjgkacggjhobmaaGreatDoor.L
namespace Go.Proofs.YtjgkacggjhobmaaGreatDoor.L
open Go.RowKit
theorem letter_any (c:Int) (hc:0≤c∧c≤255) (w:World):Calls Tryz.prog 59 #[.int .u8 c] w fun e w'=>e=.returned (.bool (Lx.letB c))∧w=w':=by
 go_enter Tryz.func59,Tryz.ntmps59;go_wp2
 all_goals go_returns
 all_goals exact ⟨rb rfl (by rw [Bool.eq_iff_iff,Lx.letB_iff]; simp; omega),rfl⟩
theorem digit_any (c:Int) (hc:0≤c∧c≤255) (w:World):Calls Tryz.prog 61 #[.int .u8 c] w fun e w'=>e=.returned (.bool (Lx.digB c))∧w=w':=by
 go_enter Tryz.func61,Tryz.ntmps61;go_wp2
 all_goals go_returns
 all_goals exact ⟨rb rfl (by rw [Bool.eq_iff_iff,Lx.digB_iff]; simp; omega),rfl⟩
theorem letter_as (c:Int) (L:Bool) (hc:0≤c∧c≤255) (HL:Hid (Lx.letB c=L)) (w:World):Calls Tryz.prog 59 #[.int .u8 c] w fun e w'=>e=.returned (.bool L)∧w=w':=by
 rw [← HL.out]; exact letter_any c hc w
theorem digit_as (c:Int) (L:Bool) (hc:0≤c∧c≤255) (HL:Hid (Lx.digB c=L)) (w:World):Calls Tryz.prog 61 #[.int .u8 c] w fun e w'=>e=.returned (.bool L)∧w=w':=by
 rw [← HL.out]; exact digit_any c hc w
theorem inName_any (c:Int) (hc:0≤c∧c≤255) (w:World):Calls Tryz.prog 87 #[.int .u8 c] w fun e w'=>e=.returned (.bool (Lx.inB c))∧w=w':=by
 obtain ⟨L,hL⟩:∃ L,Lx.letB c=L:=⟨_,rfl⟩;obtain ⟨D,hD⟩:∃ D,Lx.digB c=D:=⟨_,rfl⟩;have e:Lx.inB c=(L || D):=by unfold Lx.inB; rw [hL,hD]
 rw [e];have HL:=zz hL;have HD:=zz hD;clear hL hD e;cases L
 · go_enter Tryz.func87,Tryz.ntmps87;go_wp2_with fail;refine (letter_as c false hc HL _).mono ?_;rintro e w1 ⟨rfl,rfl⟩;go_wp2_with fail;refine (digit_as c D hc HD _).mono ?_;rintro e w1 ⟨rfl,rfl⟩;go_wp2_with fail;go_returns;exact ⟨rb rfl rfl,rfl⟩
 · go_enter Tryz.func87,Tryz.ntmps87;go_wp2_with fail;refine (letter_as c true hc HL _).mono ?_;rintro e w1 ⟨rfl,rfl⟩;go_wp2_with fail;go_returns;exact ⟨rb rfl rfl,rfl⟩
theorem inName_as (c:Int) (L:Bool) (hc:0≤c∧c≤255) (HL:Hid (Lx.inB c=L)) (w:World):Calls Tryz.prog 87 #[.int .u8 c] w fun e w'=>e=.returned (.bool L)∧w=w':=by
 rw [← HL.out]; exact inName_any c hc w
theorem rt {v u:Value} {k:IntKind} {a b:Int} {p q:Bool} (hv:v=.int k a) (hu:u=.bool p) (h:a=b) (h':p=q) :
    Ending.returned (.tuple #[v,u])=.returned (.tuple #[.int k b,.bool q]):=by rw [hv,hu,h,h']
def vOk (v:Int):Bool:=decide (0≤v)
def vNum (v:Int):Int:=if 0≤v then v else 0
theorem value_any (c b:Int) (hc:0≤c∧c≤255) (hb:b=10∨b=16) (w:World):Calls Tryz.prog 89 #[.int .u8 c,.int .u64 b] w fun e w'=>e=.returned (.tuple #[.int .u64 (vNum (Lx.valB b c)),.bool (vOk (Lx.valB b c))])∧w=w':=by
 obtain ⟨V,hV⟩:∃ V,Lx.valB b c=V:=⟨_,rfl⟩;rw [hV];unfold Lx.valB at hV;cases hD:Lx.digB c
 · rw [hD,if_neg (by decide)] at hV;have HD:=zz hD;have HV:=zz hV;clear hD hV;rcases hb with rfl | rfl
   · have e:V=-1:=by rw [← HV.out]; rfl
     rw [e];clear e HV;go_enter Tryz.func89,Tryz.ntmps89;go_wp2_with fail;refine (digit_as c false hc HD _).mono ?_;rintro e w1 ⟨rfl,rfl⟩;go_wp2_with fail;go_returns;exact ⟨rt rfl rfl rfl rfl,rfl⟩
   · by_cases h1:97≤c∧c≤102
     · have e:V=c - 87:=by rw [← HV.out,if_pos ⟨rfl,h1⟩]
       rw [e];clear e HV;obtain ⟨h1a,h1b⟩:=h1;go_enter Tryz.func89,Tryz.ntmps89;go_wp2_with fail;refine (digit_as c false hc HD _).mono ?_;rintro e w1 ⟨rfl,rfl⟩;go_wp2_with fail;go_returns;exact ⟨rt rfl rfl (by unfold vNum; rw [if_pos (by omega)]; omega) (by unfold vOk; rw [decide_eq_true (by omega)]),rfl⟩
     · by_cases h2:65≤c∧c≤70
       · have e:V=c - 55:=by rw [← HV.out,if_neg (by omega),if_pos ⟨rfl,h2⟩]
         rw [e];clear e HV;obtain ⟨h2a,h2b⟩:=h2;have h1':¬ 97≤c:=by omega
         go_enter Tryz.func89,Tryz.ntmps89;go_wp2_with fail;refine (digit_as c false hc HD _).mono ?_;rintro e w1 ⟨rfl,rfl⟩;go_wp2_with fail;go_returns;exact ⟨rt rfl rfl (by unfold vNum; rw [if_pos (by omega)]; omega) (by unfold vOk; rw [decide_eq_true (by omega)]),rfl⟩
       · have e:V=-1:=by rw [← HV.out,if_neg (by omega),if_neg (by omega)]
         rw [e];clear e HV;go_enter Tryz.func89,Tryz.ntmps89;go_wp2_with fail;refine (digit_as c false hc HD _).mono ?_;rintro e w1 ⟨rfl,rfl⟩;go_wp2_with fail
         all_goals go_returns
         all_goals first | exact ⟨rt rfl rfl rfl rfl,rfl⟩ | (exfalso; omega)
 · rw [hD,if_pos rfl] at hV;have HD:=zz hD;have h9:=(Lx.digB_iff c).1 hD;subst hV;clear hD;go_enter Tryz.func89,Tryz.ntmps89;go_wp2_with fail;refine (digit_as c true hc HD _).mono ?_;rintro e w1 ⟨rfl,rfl⟩;go_wp2_with fail;go_returns;exact ⟨rt rfl rfl (by unfold vNum; rw [if_pos (by omega)]) (by unfold vOk; rw [decide_eq_true (by omega)]),rfl⟩
end Go.Proofs.YtjgkacggjhobmaaGreatDoor.L
namespace Go.Proofs.YtjgkacggjhobmaaGreatDoor.L
open Go.RowKit
theorem word_any (t:ByteArray) (w:World):Calls Tryz.prog 88 #[.string t] w fun e w'=>e=.returned (.bool (Lx.wordB t))∧w=w':=by
 go_enter Tryz.func88,Tryz.ntmps88;go_wp2
 all_goals go_returns
 all_goals refine ⟨rb rfl ?_,rfl⟩
 all_goals first
  | (exfalso; have h1:∀ {a:Bool},a=true→a=false→False:=fun h k=>by rw [h] at k; cases k
     exact h1 (by assumption) (by assumption))
  | (unfold Lx.wordB; simp [*]; done)
  | (simp_all; done)
theorem word_as (t:ByteArray) (B:Bool) (HB:Hid (Lx.wordB t=B)) (w:World):Calls Tryz.prog 88 #[.string t] w fun e w'=>e=.returned (.bool B)∧w=w':=by
 rw [← HB.out]; exact word_any t w
theorem rs {v:Value} {a b:ByteArray} (hv:v=.string a) (h:a=b):Ending.returned v=.returned (.string b):=by rw [hv,h]
theorem suffix_any (p:Nat) (s:ByteArray) (k:Nat) (hk:k≤s.size) (hs:s.size≤4611686018427387904) (w0 w:World) (h:Sc p s k w0 w) :
    Calls Tryz.prog 91 #[.pointer (some ⟨p,0,none⟩)] w fun e w'=>e=.returned (.string (Lx.sufStr s k))∧Sc p s (k+Lx.sufLen s k) w0 w':=by
 obtain ⟨c,hc⟩:∃ c,Lx.pk s k=c:=⟨_,rfl⟩;obtain ⟨d,hd⟩:∃ d,Lx.pk s (k+1)=d:=⟨_,rfl⟩;have hl:=Lx.sufLen_le hk;have e1:Hid (Lx.sufStr s k=if c=117 then (if d=108 then ⟨#[117,108]⟩ else ⟨#[117]⟩) else if c=108 then ⟨#[108]⟩ else ⟨#[]⟩):=by unfold Lx.sufStr; rw [hc,hd]; exact zz rfl
 have e2:Hid (Lx.sufLen s k=if c=117 then (if d=108 then 2 else 1) else if c=108 then 1 else 0):=by unfold Lx.sufLen; rw [hc,hd]; exact zz rfl
 have HC:=zz hc;have HD:=zz hd;have HS:=zz h;rw [e2.out] at hl;clear hc hd h;by_cases hu:c=117
 · subst hu;rw [if_pos rfl] at hl;by_cases hv:d=108
   · subst hv;rw [if_pos rfl] at hl;have q1:Hid (Lx.sufStr s k=⟨#[117,108]⟩):=e1;have q2:Hid (Lx.sufLen s k=2):=e2;clear e1 e2;go_enter Tryz.func91,Tryz.ntmps91;go_wp2_with fail;refine (peek_as p s k k 0 _ (by decide) (by omega) hk hs HC _ _ HS.out).mono ?_;rintro e w1 ⟨rfl,h1⟩;have H1:=zz h1;clear h1;go_wp2_with fail;refine (peek_as p s k (k+1) 1 _ (by decide) (by omega) hk hs HD _ _ H1.out).mono ?_;rintro e w2 ⟨rfl,h1⟩;have H2:=zz h1;clear h1;have d1:=H2.out.c1;have d2:=H2.out.f 1;go_wp2_with fail;go_returns;rw [q1.out,q2.out];exact ⟨rs rfl rfl,Sc.setI H2.out (by omega)⟩
   · rw [if_neg hv] at hl;have q1:Hid (Lx.sufStr s k=⟨#[117]⟩):=zz (e1.out.trans (by rw [if_pos rfl,if_neg hv]));have q2:Hid (Lx.sufLen s k=1):=zz (e2.out.trans (by rw [if_pos rfl,if_neg hv]));have r1:(d==108)=false:=by simpa using hv
     clear e1 e2 hv;go_enter Tryz.func91,Tryz.ntmps91;go_wp2_with fail;refine (peek_as p s k k 0 _ (by decide) (by omega) hk hs HC _ _ HS.out).mono ?_;rintro e w1 ⟨rfl,h1⟩;have H1:=zz h1;clear h1;go_wp2_with fail;refine (peek_as p s k (k+1) 1 _ (by decide) (by omega) hk hs HD _ _ H1.out).mono ?_;rintro e w2 ⟨rfl,h1⟩;have H2:=zz h1;clear h1;go_wp2_with fail;refine (peek_as p s k k 0 _ (by decide) (by omega) hk hs HC _ _ H2.out).mono ?_;rintro e w3 ⟨rfl,h1⟩;have H3:=zz h1;clear h1;have d1:=H3.out.c1;have d2:=H3.out.f 1;go_wp2_with fail;go_returns;rw [q1.out,q2.out];exact ⟨rs rfl rfl,Sc.setI H3.out (by omega)⟩
 · rw [if_neg hu] at hl;have r0:(c==117)=false:=by simpa using hu
   by_cases hv:c=108
   · subst hv;rw [if_pos rfl] at hl;have q1:Hid (Lx.sufStr s k=⟨#[108]⟩):=e1;have q2:Hid (Lx.sufLen s k=1):=e2;clear e1 e2 hu r0;go_enter Tryz.func91,Tryz.ntmps91;go_wp2_with fail;refine (peek_as p s k k 0 _ (by decide) (by omega) hk hs HC _ _ HS.out).mono ?_;rintro e w1 ⟨rfl,h1⟩;have H1:=zz h1;clear h1;go_wp2_with fail;refine (peek_as p s k k 0 _ (by decide) (by omega) hk hs HC _ _ H1.out).mono ?_;rintro e w2 ⟨rfl,h1⟩;have H2:=zz h1;clear h1;go_wp2_with fail;refine (peek_as p s k k 0 _ (by decide) (by omega) hk hs HC _ _ H2.out).mono ?_;rintro e w3 ⟨rfl,h1⟩;have H3:=zz h1;clear h1;have d1:=H3.out.c1;have d2:=H3.out.f 1;go_wp2_with fail;go_returns;rw [q1.out,q2.out];exact ⟨rs rfl rfl,Sc.setI H3.out (by omega)⟩
   · have q1:Hid (Lx.sufStr s k=⟨#[]⟩):=zz (e1.out.trans (by rw [if_neg hu,if_neg hv]));have q2:Hid (Lx.sufLen s k=0):=zz (e2.out.trans (by rw [if_neg hu,if_neg hv]));have r1:(c==108)=false:=by simpa using hv
     clear e1 e2 hv hu hl;go_enter Tryz.func91,Tryz.ntmps91;go_wp2_with fail;refine (peek_as p s k k 0 _ (by decide) (by omega) hk hs HC _ _ HS.out).mono ?_;rintro e w1 ⟨rfl,h1⟩;have H1:=zz h1;clear h1;go_wp2_with fail;refine (peek_as p s k k 0 _ (by decide) (by omega) hk hs HC _ _ H1.out).mono ?_;rintro e w2 ⟨rfl,h1⟩;have H2:=zz h1;clear h1;go_wp2_with fail;refine (peek_as p s k k 0 _ (by decide) (by omega) hk hs HC _ _ H2.out).mono ?_;rintro e w3 ⟨rfl,h1⟩;have H3:=zz h1;clear h1;have d1:=H3.out.c1;have d2:=H3.out.f 1;go_wp2_with fail;go_returns;rw [q1.out,q2.out];exact ⟨rs rfl rfl,Sc.setI H3.out (by omega)⟩
theorem sign_any (p:Nat) (s:ByteArray) (k:Nat) (hk:k≤s.size) (hs:s.size≤4611686018427387904) (w0 w:World) (h:Sc p s k w0 w) :
    Calls Tryz.prog 64 #[.pointer (some ⟨p,0,none⟩)] w fun e w'=>e=.returned (.int .i64 (Lx.signM (Lx.pk s k) (Lx.pk s (k+1)) (Lx.pk s (k+2))))∧Sc p s k w0 w':=by
 obtain ⟨c,hc⟩:∃ c,Lx.pk s k=c:=⟨_,rfl⟩;obtain ⟨d,hd⟩:∃ d,Lx.pk s (k+1)=d:=⟨_,rfl⟩;obtain ⟨x,hx⟩:∃ x,Lx.pk s (k+2)=x:=⟨_,rfl⟩;rw [hc,hd,hx];have HC:=zz hc;have HD:=zz hd;have HX:=zz hx;have HS:=zz h;clear hc hd hx h;go_enter Tryz.func64,Tryz.ntmps64;go_wp2_with fail;refine (peek_as p s k k 0 _ (by decide) (by omega) hk hs HC _ _ HS.out).mono ?_;rintro e w1 ⟨rfl,h1⟩;have H1:=zz h1;clear h1;go_wp2_with fail;refine (peek_as p s k (k+1) 1 _ (by decide) (by omega) hk hs HD _ _ H1.out).mono ?_;rintro e w2 ⟨rfl,h1⟩;have H2:=zz h1;clear h1;go_wp2_with fail;refine (peek_as p s k (k+2) 2 _ (by decide) (by omega) hk hs HX _ _ H2.out).mono ?_;rintro e w3 ⟨rfl,h1⟩;have H3:=zz h1;clear h1;go_wp2_with fail
 all_goals go_returns
 all_goals refine ⟨ri rfl ?_,H3.out⟩
 all_goals simp only [beq_iff_eq,beq_eq_false_iff_ne,ne_eq] at *
 all_goals first
  | (exfalso; omega)
  | (unfold Lx.signM; (repeat' split) <;> first | rfl | (exfalso; omega))
end Go.Proofs.YtjgkacggjhobmaaGreatDoor.L
namespace Go.Proofs.YtjgkacggjhobmaaGreatDoor.L
open Go.RowKit
def tokV (kind:Int) (suf:ByteArray) (num:Int) (hex:Bool):Value:=.agg #[.int .i64 kind,.int .i64 0,.string ⟨#[]⟩,.string suf,.int .u64 num,.bool hex]
def TokPost (p:Nat) (s:ByteArray) (w0:World) (kind:Int) (suf:ByteArray) (num:Int) (hex:Bool) (code:Int) (j:Nat) (e:Ending) (w':World):Prop :=
 e=.returned (.tuple #[tokV kind suf num hex,.int .i64 code])∧Sc p s j w0 w'
theorem name_any (p:Nat) (s:ByteArray) (i:Nat) (hi:i≤s.size) (hs:s.size≤4611686018427387904) (w0 w:World) (h:Sc p s i w0 w) :
    Calls Tryz.prog 60 #[.pointer (some ⟨p,0,none⟩)] w (TokPost p s w0 (Lx.nameM s i (Lx.nameEnd s i)).2 ⟨#[]⟩ 0 false (Lx.nameM s i (Lx.nameEnd s i)).1 (Lx.nameEnd s i)):=by
 have c1a:∀ o:Obj,(w.alloc o).cell? ⟨p,1,none⟩=some (.int .i64 (i:Int)):=fun o=>(h.alloc o).c1
 have HT:=zz (TokAt.made w);have HZ:Hid (w.heap.size < (w.alloc (.cells #[.int .i64 0,.int .i64 0,.string ⟨#[]⟩,.string ⟨#[]⟩,.int .u64 0,.bool false] 83)).heap.size):=zz (by simp);have HQ:=zz (Nat.ne_of_gt h.lt);have HG:=zz h.g.size;have HS:=zz h;clear h;go_enter Tryz.func60,Tryz.ntmps60;go_wp2_with fail;go_loopg [] (s.size - i) (fun g wr=>∃ k f:Nat,i≤k∧k≤s.size∧g=s.size - k∧g≤f∧Hid (Lx.nameEnd s i=Lx.scan (Lx.nameP s) f k)∧Hid (Sc p s k (w.alloc (.cells #[.int .i64 0,.int .i64 0,.string ⟨#[]⟩,.string ⟨#[]⟩,.int .u64 0,.bool false] 83)) wr))
 case atStart=>exact ⟨i,s.size,by omega,hi,rfl,by omega,zz rfl,zz (HS.out.alloc _).refl⟩
 case round =>
  obtain ⟨k,f,hik,hk,hg,hf,HE,H⟩:=hrel;clear c1a;obtain ⟨c,hc⟩:∃ c,Lx.pk s k=c:=⟨_,rfl⟩;obtain ⟨I,hI⟩:∃ I,Lx.inB c=I:=⟨_,rfl⟩;have hcb:=Lx.pk_bd s k;rw [hc] at hcb;have HC:=zz hc;have HI:=zz hI;clear hc hI;cases I
  · have HE2:Hid (Lx.nameEnd s i=k):=by
     rw [HE.out]; exact zz (Lx.scan_no (by unfold Lx.nameP; rw [HC.out]; exact HI.out))
    clear HE;obtain ⟨r,hr⟩:∃ r,Lx.nameM s i k=r:=⟨_,rfl⟩;have HN:Hid (Lx.nameM s i (Lx.nameEnd s i)=r):=by rw [HE2.out]; exact hr
    unfold Lx.nameM at hr;have hik':(i:Int)≤(k:Int):=by omega
    have hk':(k:Int)≤(s.size:Int):=by omega
    by_cases h30:30 < k - i
    · rw [if_pos h30] at hr;have HR:=zz hr;clear hr;have h30':(30:Int) < ((k - i:Nat):Int):=by omega
      go_wp2_with fail;refine (peek_as p s k k 0 _ (by decide) (by omega) hk hs HC _ _ H.out).mono ?_;rintro e w1 ⟨rfl,h1⟩;have H1:=zz h1;clear h1;go_wp2_with fail;refine (inName_as c _ hcb HI _).mono ?_;rintro e w2 ⟨rfl,rfl⟩;have d0:=H1.out.c0;have d1:=H1.out.c1;obtain ⟨t0,t1,t2,t3,t4,t5,tf⟩:=(HT.out.on H1.out HZ.out HQ.out).cells;go_wp2_with fail;go_quiet (fail);clear d0 d1;go_wp2_with fail;refine bodyPost_ret (v:=.tuple #[tokV 0 ⟨#[]⟩ 0 false,.int .i64 6]) (by simp [results,Tryz.results60,go_sem,tokV,t0,t1,t2,t3,t4,t5]) rfl ?_;rw [HN.out,HE2.out,← HR.out];refine ⟨rfl,?_⟩
      repeat (first | with_reducible refine Sc.setq ?_ HG.out HQ.out _ _ | with_reducible refine Sc.drewN ?_ _)
      exact (HS.out.alloc _).onto H1.out
    · rw [if_neg h30] at hr;have h30':¬ (30:Int) < ((k - i:Nat):Int):=by omega
      cases hw:Lx.wordB (s.extract i k)
      · rw [hw,if_neg (by decide)] at hr;have HR:=zz hr;have HW:=zz hw;clear hr hw;go_wp2_with fail;refine (peek_as p s k k 0 _ (by decide) (by omega) hk hs HC _ _ H.out).mono ?_;rintro e w1 ⟨rfl,h1⟩;have H1:=zz h1;clear h1;go_wp2_with fail;refine (inName_as c _ hcb HI _).mono ?_;rintro e w2 ⟨rfl,rfl⟩;have d0:=H1.out.c0;have d1:=H1.out.c1;obtain ⟨t0,t1,t2,t3,t4,t5,tf⟩:=(HT.out.on H1.out HZ.out HQ.out).cells;go_wp2_with fail;go_quiet (fail);clear d0 d1;go_wp2_with fail;refine (word_as _ false HW _).mono ?_;rintro e w3 ⟨rfl,rfl⟩;go_wp2_with fail;refine bodyPost_ret (v:=.tuple #[tokV 1 ⟨#[]⟩ 0 false,.int .i64 0]) (by simp [results,Tryz.results60,go_sem,tokV,t0,t1,t2,t3,t4,t5]) rfl ?_;rw [HN.out,HE2.out,← HR.out];refine ⟨rfl,?_⟩
        repeat (first | with_reducible refine Sc.setq ?_ HG.out HQ.out _ _ | with_reducible refine Sc.drewN ?_ _)
        exact (HS.out.alloc _).onto H1.out
      · rw [hw,if_pos rfl] at hr;have HR:=zz hr;have HW:=zz hw;clear hr hw;go_wp2_with fail;refine (peek_as p s k k 0 _ (by decide) (by omega) hk hs HC _ _ H.out).mono ?_;rintro e w1 ⟨rfl,h1⟩;have H1:=zz h1;clear h1;go_wp2_with fail;refine (inName_as c _ hcb HI _).mono ?_;rintro e w2 ⟨rfl,rfl⟩;have d0:=H1.out.c0;have d1:=H1.out.c1;obtain ⟨t0,t1,t2,t3,t4,t5,tf⟩:=(HT.out.on H1.out HZ.out HQ.out).cells;go_wp2_with fail;go_quiet (fail);clear d0 d1;go_wp2_with fail;refine (word_as _ true HW _).mono ?_;rintro e w3 ⟨rfl,rfl⟩;go_wp2_with fail;refine bodyPost_ret (v:=.tuple #[tokV 2 ⟨#[]⟩ 0 false,.int .i64 0]) (by simp [results,Tryz.results60,go_sem,tokV,t0,t1,t2,t3,t4,t5]) rfl ?_;rw [HN.out,HE2.out,← HR.out];refine ⟨rfl,?_⟩
        repeat (first | with_reducible refine Sc.setq ?_ HG.out HQ.out _ _ | with_reducible refine Sc.drewN ?_ _)
        exact (HS.out.alloc _).onto H1.out
  · have hlt:=Lx.pk_in (s:=s) (i:=k) (by rw [HC.out]; intro e; rw [e] at HI; cases HI.out);obtain ⟨f,rfl⟩:∃ f',f=f'+1:=⟨f - 1,by omega⟩;have HE2:Hid (Lx.nameEnd s i=Lx.scan (Lx.nameP s) f (k+1)):=by
     rw [HE.out]; exact zz (Lx.scan_yes (by unfold Lx.nameP; rw [HC.out]; exact HI.out))
    clear HE;go_wp2_with fail;refine (peek_as p s k k 0 _ (by decide) (by omega) hk hs HC _ _ H.out).mono ?_;rintro e w1 ⟨rfl,h1⟩;have H1:=zz h1;clear h1;go_wp2_with fail;refine (inName_as c _ hcb HI _).mono ?_;rintro e w2 ⟨rfl,rfl⟩;have d1:=H1.out.c1;have d2:=H1.out.f 1;go_wp2_with fail;go_roundg (gk - 1)
    case rel=>exact ⟨k+1,f,by omega,by omega,by omega,by omega,HE2,zz (Sc.setI H1.out (by omega))⟩
    case measure=>omega
end Go.Proofs.YtjgkacggjhobmaaGreatDoor.L
namespace Go.Proofs.YtjgkacggjhobmaaGreatDoor.L
open Go.RowKit
theorem skipLine_any (p:Nat) (s:ByteArray) (i:Nat) (hi:i≤s.size) (hs:s.size≤4611686018427387904) (w0 w:World) (h:Sc p s i w0 w) :
    Calls Tryz.prog 57 #[.pointer (some ⟨p,0,none⟩)] w fun e w'=>e=.returned (.tuple #[])∧Sc p s (Lx.lineEnd s i) w0 w':=by
 have HS:=zz h;clear h;go_enter Tryz.func57,Tryz.ntmps57;go_wp2_with fail;go_loopg [] (s.size - i) (fun g wr=>∃ k f:Nat,k≤s.size∧g=s.size - k∧g≤f∧Hid (Lx.lineEnd s i=Lx.scan (Lx.lineP s) f k)∧Hid (Sc p s k w0 wr))
 case atStart=>exact ⟨i,s.size,hi,rfl,by omega,zz rfl,HS⟩
 case round =>
  obtain ⟨k,f,hk,hg,hf,HE,H⟩:=hrel;clear HS;have c0:=H.out.c0;have c1:=H.out.c1;have f1:=H.out.f 1;by_cases hlt:k < s.size
  · have hlt':(k:Int) < (s.size:Int):=by omega
    have hp:=Lx.pk_lt hlt;by_cases h10:(s[k].toNat:Int)=10
    · have q1:((s[k].toNat:Int) != 10)=false:=by simpa using h10
      have HE2:Hid (Lx.lineEnd s i=k):=by
       rw [HE.out]; exact zz (Lx.scan_no (by unfold Lx.lineP; rw [hp,h10]; simp))
      clear hp h10 HE;go_wp2_with fail;go_quiet (fail);go_wp2_with fail;go_end0;refine ⟨rfl,?_⟩;rw [HE2.out];exact H.out.drewN _
    · have q1:((s[k].toNat:Int) != 10)=true:=by simpa using h10
      by_cases h13:(s[k].toNat:Int)=13
      · have q2:((s[k].toNat:Int) != 13)=false:=by simpa using h13
        have HE2:Hid (Lx.lineEnd s i=k):=by
         rw [HE.out]; exact zz (Lx.scan_no (by unfold Lx.lineP; rw [hp,h13]; simp))
        clear hp h10 h13 HE;go_wp2_with fail;go_quiet (fail);go_wp2_with fail;go_end0;refine ⟨rfl,?_⟩;rw [HE2.out];exact H.out.drewN _
      · have q2:((s[k].toNat:Int) != 13)=true:=by simpa using h13
        obtain ⟨f,rfl⟩:∃ f',f=f'+1:=⟨f - 1,by omega⟩;have HE2:Hid (Lx.lineEnd s i=Lx.scan (Lx.lineP s) f (k+1)):=by
         rw [HE.out]; exact zz (Lx.scan_yes (by unfold Lx.lineP; rw [hp,decide_eq_true hlt]; simp [h10,h13]))
        clear hp h10 h13 HE;go_wp2_with fail;go_quiet (fail);go_wp2_with fail;go_roundg (gk - 1)
        case rel=>exact ⟨k+1,f,by omega,by omega,by omega,HE2,zz (Sc.setI (H.out.drewN _) (by omega))⟩
        case measure=>omega
  · have hlt':¬ (k:Int) < (s.size:Int):=by omega
    have HE2:Hid (Lx.lineEnd s i=k):=by
     rw [HE.out]; exact zz (Lx.scan_no (Lx.lineP_ge s k (by omega)))
    clear HE;go_wp2_with fail;go_quiet (fail);go_wp2_with fail;go_end0;refine ⟨rfl,?_⟩;rw [HE2.out];exact H.out.drewN _
theorem skipBlock_any (p:Nat) (s:ByteArray) (i:Nat) (hi:i+2≤s.size) (hs:s.size≤4611686018427387904) (w0 w:World) (h:Sc p s i w0 w) :
    Calls Tryz.prog 58 #[.pointer (some ⟨p,0,none⟩)] w fun e w'=>e=.returned (.bool (decide (Lx.blockEnd s (i+2)+1 < s.size)))∧Sc p s (Lx.blockAt s (Lx.blockEnd s (i+2))) w0 w':=by
 have c1:=h.c1;have f1:=h.f 1;have hi2:(i:Int)+2≤(s.size:Int):=by omega
 have HS:Hid (Sc p s (i+2) w0 (w.setCell ⟨p,1,none⟩ (.int .i64 ((i:Int)+2)))):=zz (by have:=h.set (i+2); simpa using this);clear h;go_enter Tryz.func58,Tryz.ntmps58;go_wp2_with fail;go_loopg [] (s.size - (i+2)) (fun g wr=>∃ k f:Nat,i+2≤k∧k≤s.size∧g=s.size - k∧g≤f∧Hid (Lx.blockEnd s (i+2)=Lx.scan (Lx.blockP s) f k)∧Hid (Sc p s k w0 wr))
 case atStart=>exact ⟨i+2,s.size,by omega,hi,rfl,by omega,zz rfl,HS⟩
 case round =>
  obtain ⟨k,f,hik,hk,hg,hf,HE,H⟩:=hrel;clear HS c1 f1;have c0:=H.out.c0;have c1:=H.out.c1;have f1:=H.out.f 1;by_cases hlt:k+1 < s.size
  · have hlt':(k:Int)+1 < (s.size:Int):=by omega
    have hltk:k < s.size:=by omega
    have hltk':(k:Int) < (s.size:Int):=by omega
    have hp:=Lx.pk_lt hltk;have hp1:=Lx.pk_lt hlt;by_cases hm:(s[k].toNat:Int)=42∧(s[k+1].toNat:Int)=47
    · have HE2:Hid (Lx.blockEnd s (i+2)=k):=by
       rw [HE.out]; exact zz (Lx.scan_no (by unfold Lx.blockP; rw [hp,hp1,hm.1,hm.2]; simp))
      have q1:((s[k].toNat:Int)==42)=true:=by simpa using hm.1
      have q2:((s[k+1].toNat:Int)==47)=true:=by simpa using hm.2
      clear hp hp1 hm HE;have w1:IntKind.i64.wrap ((k:Int)+1)=(k:Int)+1:=IntWalk.i64_in _ (by omega);have w2:(0:Int)≤(k:Int)+1:=by omega
      have w3:((k:Int)+1).toNat=k+1:=by omega
      go_wp2_with fail;go_quiet (fail);go_wp2_with fail;go_quiet (fail);clear w1;go_wp2_with fail;go_returns;rw [HE2.out];refine ⟨rb rfl (decide_eq_true hlt).symm,?_⟩;rw [Lx.blockAt_yes hlt]
      repeat (first | exact H.out | refine Sc.drewN ?_ _ | (refine Sc.setI (i:=k) ?_ ?_; rotate_left; omega))
    · obtain ⟨f,rfl⟩:∃ f',f=f'+1:=⟨f - 1,by omega⟩;have HE2:Hid (Lx.blockEnd s (i+2)=Lx.scan (Lx.blockP s) f (k+1)):=by
       rw [HE.out]; exact zz (Lx.scan_yes (by unfold Lx.blockP; rw [hp,hp1,decide_eq_true hlt]; simpa using Decidable.not_and_iff_or_not.1 hm))
      by_cases h42:(s[k].toNat:Int)=42
      · have q1:((s[k].toNat:Int)==42)=true:=by simpa using h42
        have q2:((s[k+1].toNat:Int)==47)=false:=by simpa using fun h=>hm ⟨h42,h⟩
        clear hp hp1 hm HE h42;have w1:IntKind.i64.wrap ((k:Int)+1)=(k:Int)+1:=IntWalk.i64_in _ (by omega);have w2:(0:Int)≤(k:Int)+1:=by omega
        have w3:((k:Int)+1).toNat=k+1:=by omega
        go_wp2_with fail;go_quiet (fail);go_wp2_with fail;go_quiet (fail);clear w1;go_wp2_with fail;go_roundg (gk - 1)
        case rel=>exact ⟨k+1,f,by omega,by omega,by omega,by omega,HE2,zz (by repeat (first | exact H.out | refine Sc.drewN ?_ _ | (refine Sc.setI (i:=k) ?_ ?_; rotate_left; omega)))⟩
        case measure=>omega
      · have q1:((s[k].toNat:Int)==42)=false:=by simpa using h42
        clear hp hp1 hm HE h42;have w1:IntKind.i64.wrap ((k:Int)+1)=(k:Int)+1:=IntWalk.i64_in _ (by omega);have w2:(0:Int)≤(k:Int)+1:=by omega
        have w3:((k:Int)+1).toNat=k+1:=by omega
        go_wp2_with fail;go_quiet (fail);go_wp2_with fail;go_quiet (fail);clear w1;go_wp2_with fail;go_roundg (gk - 1)
        case rel=>exact ⟨k+1,f,by omega,by omega,by omega,by omega,HE2,zz (by repeat (first | exact H.out | refine Sc.drewN ?_ _ | (refine Sc.setI (i:=k) ?_ ?_; rotate_left; omega)))⟩
        case measure=>omega
  · have hlt':¬ (k:Int)+1 < (s.size:Int):=by omega
    have HE2:Hid (Lx.blockEnd s (i+2)=k):=by
     rw [HE.out]; exact zz (Lx.scan_no (Lx.blockP_ge s k (by omega)))
    clear HE;go_wp2_with fail;go_quiet (fail);go_wp2_with fail;go_returns;rw [HE2.out];refine ⟨rb rfl (decide_eq_false hlt).symm,?_⟩;rw [Lx.blockAt_no hlt];exact H.out.drewN _
end Go.Proofs.YtjgkacggjhobmaaGreatDoor.L
namespace Go.Proofs.YtjgkacggjhobmaaGreatDoor.L
open Go.RowKit
def SkipPost (p:Nat) (s:ByteArray) (w0:World) (r:Nat × Bool) (e:Ending) (w':World):Prop :=
 ∃ j:Nat,e=.returned (.tuple #[.int .i64 (if r.2=true then 0 else (r.1:Int)),.bool r.2])∧Sc p s j w0 w'∧(r.2=true→j=r.1)
theorem skip_ok {p:Nat} {s:ByteArray} {w0 w':World} {r:Nat × Bool} {k:Nat} (hr:r=(k,true)) (h:Sc p s k w0 w'):SkipPost p s w0 r (.returned (.tuple #[.int .i64 0,.bool true])) w':=by
 subst hr; exact ⟨k,rfl,h,fun _=>rfl⟩
theorem skip_no {p:Nat} {s:ByteArray} {w0 w':World} {r:Nat × Bool} {k j:Nat} {v:Int} (hr:r=(k,false)) (hv:v=(k:Int)) (h:Sc p s j w0 w'):SkipPost p s w0 r (.returned (.tuple #[.int .i64 v,.bool false])) w':=by
 subst hr hv; exact ⟨j,rfl,h,fun h=>by cases h⟩
theorem skip_any (p:Nat) (s:ByteArray) (i:Nat) (hi:i≤s.size) (hs:s.size≤4611686018427387904) (w0 w:World) (h:Sc p s i w0 w) :
    Calls Tryz.prog 38 #[.pointer (some ⟨p,0,none⟩)] w (SkipPost p s w0 (Lx.gap s s.size i)):=by
 have HS:=zz h;clear h;go_enter Tryz.func38,Tryz.ntmps38;go_wp2_with fail;go_loopg [] (s.size - i) (fun g wr=>∃ k f:Nat,k≤s.size∧g=s.size - k∧g≤f∧Hid (Lx.gap s s.size i=Lx.gap s f k)∧Hid (Sc p s k w0 wr))
 case atStart=>exact ⟨i,s.size,hi,rfl,by omega,zz rfl,HS⟩
 case round =>
  obtain ⟨k,f,hk,hg,hf,HE,H⟩:=hrel;clear HS;have c0:=H.out.c0;have c1:=H.out.c1;by_cases hlt:k < s.size
  · have hlt':(k:Int) < (s.size:Int):=by omega
    obtain ⟨f,rfl⟩:∃ f',f=f'+1:=⟨f - 1,by omega⟩;obtain ⟨c,hc⟩:∃ c,Lx.pk s k=c:=⟨_,rfl⟩;obtain ⟨d,hd⟩:∃ d,Lx.pk s (k+1)=d:=⟨_,rfl⟩;have hcb:=Lx.pk_bd s k;rw [hc] at hcb;have HC:=zz hc;have HD:=zz hd;clear hc hd;by_cases hb:c=32∨c=9∨c=10∨c=13
    · have HE2:Hid (Lx.gap s s.size i=Lx.gap s f (k+1)):=by rw [HE.out]; exact zz (Lx.gap_blank hlt (by rw [HC.out,Lx.blankB_iff]; exact hb))
      clear HE;rcases hb with rfl | rfl | rfl | rfl
      · skip
        go_wp2_with fail;go_quiet (fail);go_wp2_with fail;refine (peek_as p s k k 0 _ (by decide) (by omega) hk hs HC _ _ (H.out.drewN nq)).mono ?_;rintro e w1 ⟨rfl,h1⟩;have H1:=zz h1;clear h1;have d1:=H1.out.c1;have d2:=H1.out.f 1;go_wp2_with fail;go_roundg (gk - 1)
        case rel=>exact ⟨k+1,f,by omega,by omega,by omega,HE2,zz (Sc.setI H1.out (by omega))⟩
        case measure=>omega
      · skip
        go_wp2_with fail;go_quiet (fail);go_wp2_with fail;refine (peek_as p s k k 0 _ (by decide) (by omega) hk hs HC _ _ (H.out.drewN nq)).mono ?_;rintro e w1 ⟨rfl,h1⟩;have H1:=zz h1;clear h1;have d1:=H1.out.c1;have d2:=H1.out.f 1;go_wp2_with fail;go_roundg (gk - 1)
        case rel=>exact ⟨k+1,f,by omega,by omega,by omega,HE2,zz (Sc.setI H1.out (by omega))⟩
        case measure=>omega
      · skip
        go_wp2_with fail;go_quiet (fail);go_wp2_with fail;refine (peek_as p s k k 0 _ (by decide) (by omega) hk hs HC _ _ (H.out.drewN nq)).mono ?_;rintro e w1 ⟨rfl,h1⟩;have H1:=zz h1;clear h1;have d1:=H1.out.c1;have d2:=H1.out.f 1;go_wp2_with fail;go_roundg (gk - 1)
        case rel=>exact ⟨k+1,f,by omega,by omega,by omega,HE2,zz (Sc.setI H1.out (by omega))⟩
        case measure=>omega
      · skip
        go_wp2_with fail;go_quiet (fail);go_wp2_with fail;refine (peek_as p s k k 0 _ (by decide) (by omega) hk hs HC _ _ (H.out.drewN nq)).mono ?_;rintro e w1 ⟨rfl,h1⟩;have H1:=zz h1;clear h1;have d1:=H1.out.c1;have d2:=H1.out.f 1;go_wp2_with fail;go_roundg (gk - 1)
        case rel=>exact ⟨k+1,f,by omega,by omega,by omega,HE2,zz (Sc.setI H1.out (by omega))⟩
        case measure=>omega
    · have q1:(c==32)=false:=by simpa using fun h=>hb (.inl h)
      have q2:(c==9)=false:=by simpa using fun h=>hb (.inr (.inl h))
      have q3:(c==10)=false:=by simpa using fun h=>hb (.inr (.inr (.inl h)))
      have q4:(c==13)=false:=by simpa using fun h=>hb (.inr (.inr (.inr h)))
      have hbB:Hid (Lx.blankB (Lx.pk s k)=false):=zz (by rw [HC.out]; cases h:Lx.blankB c; rfl; exact absurd ((Lx.blankB_iff c).1 h) hb);clear hb;by_cases h47:c=47
      · subst h47;clear q1 q2 q3 q4;by_cases hd47:d=47
        · subst hd47;have HE2:Hid (Lx.gap s s.size i=Lx.gap s f (Lx.lineEnd s k)):=by rw [HE.out]; exact zz (Lx.gap_line hlt HC.out HD.out)
          have hl1:=Lx.lineEnd_gt hlt HC.out;have hl2:=Lx.lineEnd_le hk;clear HE;go_wp2_with fail;go_quiet (fail);go_wp2_with fail;refine (peek_as p s k k 0 _ (by decide) (by omega) hk hs HC _ _ (H.out.drewN nq)).mono ?_;rintro e w1 ⟨rfl,h1⟩;have H1:=zz h1;clear h1;go_wp2_with fail;refine (peek_as p s k (k+1) 1 _ (by decide) (by omega) hk hs HD _ _ H1.out).mono ?_;rintro e w2 ⟨rfl,h1⟩;have H2:=zz h1;clear h1;go_wp2_with fail;refine (skipLine_any p s k hk hs _ _ H2.out).mono ?_;rintro e w3 ⟨rfl,h1⟩;have H3:=zz h1;clear h1;go_wp2_with fail;go_roundg (s.size - Lx.lineEnd s k)
          case rel=>exact ⟨Lx.lineEnd s k,f,by omega,by omega,by omega,HE2,H3⟩
          case measure=>omega
        · have r1:(d==47)=false:=by simpa using hd47
          by_cases hd42:d=42
          · subst hd42;clear r1 hd47;have hk2:k+2≤s.size:=by
             have:=Lx.pk_in (s:=s) (i:=k+1) (by rw [HD.out]; decide);omega
            have HE1:=HE.out.trans (Lx.gap_block hlt HC.out HD.out);by_cases hB:Lx.blockEnd s (k+2)+1 < s.size
            · have HE2:Hid (Lx.gap s s.size i=Lx.gap s f (Lx.blockEnd s (k+2)+2)):=by rw [HE1,if_pos hB]; exact zz rfl
              have hl1:=Lx.blockEnd_ge s (k+2);have HA:=zz (Lx.blockAt_yes hB);have HT:=zz (decide_eq_true hB);clear HE HE1;go_wp2_with fail;go_quiet (fail);go_wp2_with fail;refine (peek_as p s k k 0 _ (by decide) (by omega) hk hs HC _ _ (H.out.drewN nq)).mono ?_;rintro e w1 ⟨rfl,h1⟩;have H1:=zz h1;clear h1;go_wp2_with fail;refine (peek_as p s k (k+1) 1 _ (by decide) (by omega) hk hs HD _ _ H1.out).mono ?_;rintro e w2 ⟨rfl,h1⟩;have H2:=zz h1;clear h1;go_wp2_with fail;refine (peek_as p s k (k+1) 1 _ (by decide) (by omega) hk hs HD _ _ H2.out).mono ?_;rintro e w3 ⟨rfl,h1⟩;have H3:=zz h1;clear h1;have d1:=H3.out.c1;go_wp2_with fail;refine (skipBlock_any p s k hk2 hs _ _ H3.out).mono ?_;rw [HT.out,HA.out];rintro e w4 ⟨rfl,h1⟩;have H4:=zz h1;clear h1 d1;go_wp2_with fail;go_roundg (s.size - (Lx.blockEnd s (k+2)+2))
              case rel=>exact ⟨Lx.blockEnd s (k+2)+2,f,by omega,by omega,by omega,HE2,H4⟩
              case measure=>omega
            · have HE2:Hid (Lx.gap s s.size i=(k,false)):=by rw [HE1,if_neg hB]; exact zz rfl
              have HA:=zz (Lx.blockAt_no hB);have HT:=zz (decide_eq_false hB);clear HE HE1;go_wp2_with fail;go_quiet (fail);go_wp2_with fail;refine (peek_as p s k k 0 _ (by decide) (by omega) hk hs HC _ _ (H.out.drewN nq)).mono ?_;rintro e w1 ⟨rfl,h1⟩;have H1:=zz h1;clear h1;go_wp2_with fail;refine (peek_as p s k (k+1) 1 _ (by decide) (by omega) hk hs HD _ _ H1.out).mono ?_;rintro e w2 ⟨rfl,h1⟩;have H2:=zz h1;clear h1;go_wp2_with fail;refine (peek_as p s k (k+1) 1 _ (by decide) (by omega) hk hs HD _ _ H2.out).mono ?_;rintro e w3 ⟨rfl,h1⟩;have H3:=zz h1;clear h1;have d1:=H3.out.c1;go_wp2_with fail;refine (skipBlock_any p s k hk2 hs _ _ H3.out).mono ?_;rw [HT.out,HA.out];rintro e w4 ⟨rfl,h1⟩;have H4:=zz h1;clear h1 d1;go_wp2_with fail;go_returns;exact skip_no HE2.out rfl H4.out
          · have r2:(d==42)=false:=by simpa using hd42
            have HE2:Hid (Lx.gap s s.size i=(k,true)):=by
             rw [HE.out]; exact zz (Lx.gap_stop hbB.out (by rw [HD.out]; exact fun h=>hd47 h.2) (by rw [HD.out]; exact fun h=>hd42 h.2))
            clear HE;go_wp2_with fail;go_quiet (fail);go_wp2_with fail;refine (peek_as p s k k 0 _ (by decide) (by omega) hk hs HC _ _ (H.out.drewN nq)).mono ?_;rintro e w1 ⟨rfl,h1⟩;have H1:=zz h1;clear h1;go_wp2_with fail;refine (peek_as p s k (k+1) 1 _ (by decide) (by omega) hk hs HD _ _ H1.out).mono ?_;rintro e w2 ⟨rfl,h1⟩;have H2:=zz h1;clear h1;go_wp2_with fail;refine (peek_as p s k (k+1) 1 _ (by decide) (by omega) hk hs HD _ _ H2.out).mono ?_;rintro e w3 ⟨rfl,h1⟩;have H3:=zz h1;clear h1;go_wp2_with fail;go_returns;exact skip_ok HE2.out H3.out
      · have q5:(c==47)=false:=by simpa using h47
        have HE2:Hid (Lx.gap s s.size i=(k,true)):=by
         rw [HE.out]; exact zz (Lx.gap_stop hbB.out (by rw [HC.out]; exact fun h=>h47 h.1) (by rw [HC.out]; exact fun h=>h47 h.1))
        clear HE;go_wp2_with fail;go_quiet (fail);go_wp2_with fail;refine (peek_as p s k k 0 _ (by decide) (by omega) hk hs HC _ _ (H.out.drewN nq)).mono ?_;rintro e w1 ⟨rfl,h1⟩;have H1:=zz h1;clear h1;go_wp2_with fail;go_returns;exact skip_ok HE2.out H1.out
  · have hlt':¬ (k:Int) < (s.size:Int):=by omega
    have HE2:Hid (Lx.gap s s.size i=(k,true)):=by rw [HE.out]; exact zz (Lx.gap_end hlt)
    clear HE;go_wp2_with fail;go_quiet (fail);go_wp2_with fail;go_returns;exact skip_ok HE2.out (H.out.drewN _)
end Go.Proofs.YtjgkacggjhobmaaGreatDoor.L
