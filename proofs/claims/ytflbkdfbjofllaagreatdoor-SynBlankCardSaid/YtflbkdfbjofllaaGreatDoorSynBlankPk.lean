import Derived.Test.YtflbkdfbjofllaaGreatDoorSyPkQ
set_option maxRecDepth 100000
set_option maxHeartbeats 25600000
set_option linter.unusedSimpArgs false
set_option linter.unusedVariables false
namespace Go.Proofs.YtflbkdfbjofllaaGreatDoor
open Go.RowKit Lx
namespace Sy
def forceN (n:Nat) (k:Nat→Bool):Bool:=match n with
 | 0=>k 0
 | m+1=>k (m+1)
def forceL:List UInt8→(List UInt8→Bool)→Bool
 | [],k=>k []
 | b :: t,k=>forceN b.toNat (fun n=>forceL t (fun l=>k (UInt8.ofNat n :: l)))
def force (s:ByteArray) (k:ByteArray→Bool):Bool:=forceL s.data.toList (fun l=>k ⟨⟨l⟩⟩)
theorem forceN_eq (n:Nat) (k:Nat→Bool):forceN n k=k n:=by cases n <;> rfl
theorem forceL_eq (l:List UInt8) (k:List UInt8→Bool):forceL l k=k l:=by
 induction l generalizing k with
 | nil=>rfl
 | cons b t ih=>unfold forceL; rw [forceN_eq,ih]; simp
theorem force_eq (s:ByteArray) (k:ByteArray→Bool):force s k=k s:=by unfold force; rw [forceL_eq]
def isOk (r:ByteArray × Int × Int) (t:ByteArray):Bool:=r.1 == t && (decide (r.2.1=0) && decide (r.2.2=0))
theorem isOk_eq {r:ByteArray × Int × Int} {t:ByteArray} (h:isOk r t=true):r=(t,0,0):=by
 obtain ⟨a,b,c⟩:=r
 unfold isOk at h
 simp only [Bool.and_eq_true,decide_eq_true_eq,beq_iff_eq] at h
 obtain ⟨rfl,rfl,rfl⟩:=h
 rfl
end Sy
namespace Sy
def itsB:List ByteArray:=[⟨#[105,110,116,32,97,59]⟩,⟨#[115,116,114,117,99,116,32,116,32,123,32,99,104,97,114,32,99,59,32,125,59]⟩,⟨#[118,111,105,100,32,102,40,41,59]⟩,⟨#[116,121,112,101,100,101,102,32,105,110,116,32,111,112,40,108,111,110,103,41,59]⟩,⟨#[108,111,110,103,32,103,40,105,110,116,32,120,41,32,123,32,114,101,116,117,114,110,32,120,59,32,125]⟩,⟨#[99,104,97,114,32,42,115,91,51,93,32,61,32,123,32,48,32,125,59]⟩,⟨#[117,110,115,105,103,110,101,100,32,117,32,61,32,49,32,60,60,32,50,59]⟩]
def itB (k:Nat):ByteArray:=itsB.getD k nt
def dB (k:Nat):ByteArray:=(dumpM (itB k)).1
def oneB (k:Nat):Bool:=force (itB k) (fun T=>parseOk T && isOk (dumpM T) (dB k))
def isAt (r:List Int × Int × Int) (n:Nat):Bool:=decide (r.1=[0,(n:Int)]) && (decide (r.2.1=0) && decide (r.2.2=0))
theorem isAt_eq {r:List Int × Int × Int} {n:Nat} (h:isAt r n=true):r=([0,(n:Int)],0,0):=by
 obtain ⟨a,b,c⟩:=r
 unfold isAt at h
 simp only [Bool.and_eq_true,decide_eq_true_eq] at h
 obtain ⟨rfl,rfl,rfl⟩:=h
 rfl
def twoB (i k:Nat):Bool:=force (itB i++itB k) (fun T=>parseOk T && (isOk (dumpM T) (dB i++dB k) && isAt (itemsAt T) (itB i).size))
theorem none_ok:parseOk ⟨#[32,47,42,42,47,32]⟩=true:=by kernel_rfl
theorem none_dump:dumpM ⟨#[32,47,42,42,47,32]⟩=(nt,0,0):=by kernel_rfl
theorem bo0:oneB 0=true:=by kernel_rfl
theorem bt00:twoB 0 0=true:=by kernel_rfl
theorem bt01:twoB 0 1=true:=by kernel_rfl
theorem bt02:twoB 0 2=true:=by kernel_rfl
theorem bt03:twoB 0 3=true:=by kernel_rfl
theorem bt04:twoB 0 4=true:=by kernel_rfl
theorem bt05:twoB 0 5=true:=by kernel_rfl
theorem bt06:twoB 0 6=true:=by kernel_rfl
theorem bo1:oneB 1=true:=by kernel_rfl
theorem bt10:twoB 1 0=true:=by kernel_rfl
theorem bt11:twoB 1 1=true:=by kernel_rfl
theorem bt12:twoB 1 2=true:=by kernel_rfl
theorem bt13:twoB 1 3=true:=by kernel_rfl
theorem bt14:twoB 1 4=true:=by kernel_rfl
theorem bt15:twoB 1 5=true:=by kernel_rfl
theorem bt16:twoB 1 6=true:=by kernel_rfl
theorem bo2:oneB 2=true:=by kernel_rfl
theorem bt20:twoB 2 0=true:=by kernel_rfl
theorem bt21:twoB 2 1=true:=by kernel_rfl
theorem bt22:twoB 2 2=true:=by kernel_rfl
theorem bt23:twoB 2 3=true:=by kernel_rfl
theorem bt24:twoB 2 4=true:=by kernel_rfl
theorem bt25:twoB 2 5=true:=by kernel_rfl
theorem bt26:twoB 2 6=true:=by kernel_rfl
theorem bo3:oneB 3=true:=by kernel_rfl
theorem bt30:twoB 3 0=true:=by kernel_rfl
theorem bt31:twoB 3 1=true:=by kernel_rfl
theorem bt32:twoB 3 2=true:=by kernel_rfl
theorem bt33:twoB 3 3=true:=by kernel_rfl
theorem bt34:twoB 3 4=true:=by kernel_rfl
theorem bt35:twoB 3 5=true:=by kernel_rfl
theorem bt36:twoB 3 6=true:=by kernel_rfl
theorem bo4:oneB 4=true:=by kernel_rfl
theorem bt40:twoB 4 0=true:=by kernel_rfl
theorem bt41:twoB 4 1=true:=by kernel_rfl
theorem bt42:twoB 4 2=true:=by kernel_rfl
theorem bt43:twoB 4 3=true:=by kernel_rfl
theorem bt44:twoB 4 4=true:=by kernel_rfl
theorem bt45:twoB 4 5=true:=by kernel_rfl
theorem bt46:twoB 4 6=true:=by kernel_rfl
theorem bo5:oneB 5=true:=by kernel_rfl
theorem bt50:twoB 5 0=true:=by kernel_rfl
theorem bt51:twoB 5 1=true:=by kernel_rfl
theorem bt52:twoB 5 2=true:=by kernel_rfl
theorem bt53:twoB 5 3=true:=by kernel_rfl
theorem bt54:twoB 5 4=true:=by kernel_rfl
theorem bt55:twoB 5 5=true:=by kernel_rfl
theorem bt56:twoB 5 6=true:=by kernel_rfl
theorem bo6:oneB 6=true:=by kernel_rfl
theorem bt60:twoB 6 0=true:=by kernel_rfl
theorem bt61:twoB 6 1=true:=by kernel_rfl
theorem bt62:twoB 6 2=true:=by kernel_rfl
theorem bt63:twoB 6 3=true:=by kernel_rfl
theorem bt64:twoB 6 4=true:=by kernel_rfl
theorem bt65:twoB 6 5=true:=by kernel_rfl
theorem bt66:twoB 6 6=true:=by kernel_rfl
theorem one_any {i:Nat} (hi:i < 7):oneB i=true:=by
 match i,hi with
 | 0,_=>exact bo0
 | 1,_=>exact bo1
 | 2,_=>exact bo2
 | 3,_=>exact bo3
 | 4,_=>exact bo4
 | 5,_=>exact bo5
 | 6,_=>exact bo6
 | n+7,h=>exact absurd h (by omega)
theorem two0 {k:Nat} (hk:k < 7):twoB 0 k=true:=by
 match k,hk with
 | 0,_=>exact bt00
 | 1,_=>exact bt01
 | 2,_=>exact bt02
 | 3,_=>exact bt03
 | 4,_=>exact bt04
 | 5,_=>exact bt05
 | 6,_=>exact bt06
 | n+7,h=>exact absurd h (by omega)
theorem two1 {k:Nat} (hk:k < 7):twoB 1 k=true:=by
 match k,hk with
 | 0,_=>exact bt10
 | 1,_=>exact bt11
 | 2,_=>exact bt12
 | 3,_=>exact bt13
 | 4,_=>exact bt14
 | 5,_=>exact bt15
 | 6,_=>exact bt16
 | n+7,h=>exact absurd h (by omega)
theorem two2 {k:Nat} (hk:k < 7):twoB 2 k=true:=by
 match k,hk with
 | 0,_=>exact bt20
 | 1,_=>exact bt21
 | 2,_=>exact bt22
 | 3,_=>exact bt23
 | 4,_=>exact bt24
 | 5,_=>exact bt25
 | 6,_=>exact bt26
 | n+7,h=>exact absurd h (by omega)
theorem two3 {k:Nat} (hk:k < 7):twoB 3 k=true:=by
 match k,hk with
 | 0,_=>exact bt30
 | 1,_=>exact bt31
 | 2,_=>exact bt32
 | 3,_=>exact bt33
 | 4,_=>exact bt34
 | 5,_=>exact bt35
 | 6,_=>exact bt36
 | n+7,h=>exact absurd h (by omega)
theorem two4 {k:Nat} (hk:k < 7):twoB 4 k=true:=by
 match k,hk with
 | 0,_=>exact bt40
 | 1,_=>exact bt41
 | 2,_=>exact bt42
 | 3,_=>exact bt43
 | 4,_=>exact bt44
 | 5,_=>exact bt45
 | 6,_=>exact bt46
 | n+7,h=>exact absurd h (by omega)
theorem two5 {k:Nat} (hk:k < 7):twoB 5 k=true:=by
 match k,hk with
 | 0,_=>exact bt50
 | 1,_=>exact bt51
 | 2,_=>exact bt52
 | 3,_=>exact bt53
 | 4,_=>exact bt54
 | 5,_=>exact bt55
 | 6,_=>exact bt56
 | n+7,h=>exact absurd h (by omega)
theorem two6 {k:Nat} (hk:k < 7):twoB 6 k=true:=by
 match k,hk with
 | 0,_=>exact bt60
 | 1,_=>exact bt61
 | 2,_=>exact bt62
 | 3,_=>exact bt63
 | 4,_=>exact bt64
 | 5,_=>exact bt65
 | 6,_=>exact bt66
 | n+7,h=>exact absurd h (by omega)
theorem two_any {i k:Nat} (hi:i < 7) (hk:k < 7):twoB i k=true:=by
 match i,hi with
 | 0,_=>exact two0 hk
 | 1,_=>exact two1 hk
 | 2,_=>exact two2 hk
 | 3,_=>exact two3 hk
 | 4,_=>exact two4 hk
 | 5,_=>exact two5 hk
 | 6,_=>exact two6 hk
 | n+7,h=>exact absurd h (by omega)
theorem one_at {i:Nat} (hi:i < 7):parseOk (itB i)=true∧dumpM (itB i)=(dB i,0,0):=by
 have h:=one_any hi
 unfold oneB at h
 rw [force_eq,Bool.and_eq_true] at h
 exact ⟨h.1,isOk_eq h.2⟩
theorem two_at {i k:Nat} (hi:i < 7) (hk:k < 7):parseOk (itB i++itB k)=true∧dumpM (itB i++itB k)=(dB i++dB k,0,0)∧itemsAt (itB i++itB k)=([0,((itB i).size:Int)],0,0):=by
 have h:=two_any hi hk
 unfold twoB at h
 rw [force_eq,Bool.and_eq_true,Bool.and_eq_true] at h
 exact ⟨h.1,isOk_eq h.2.1,isAt_eq h.2.2⟩
theorem itB_size {i:Nat} (hi:i < 7):(itB i).size≤30:=by
 match i,hi with
 | 0,_=>exact of_decide_eq_true rfl
 | 1,_=>exact of_decide_eq_true rfl
 | 2,_=>exact of_decide_eq_true rfl
 | 3,_=>exact of_decide_eq_true rfl
 | 4,_=>exact of_decide_eq_true rfl
 | 5,_=>exact of_decide_eq_true rfl
 | 6,_=>exact of_decide_eq_true rfl
 | n+7,h=>exact absurd h (by omega)
theorem dB_size {i:Nat} (hi:i < 7):(dB i).size≤200:=by
 match i,hi with
 | 0,_=>exact of_decide_eq_true (by kernel_rfl)
 | 1,_=>exact of_decide_eq_true (by kernel_rfl)
 | 2,_=>exact of_decide_eq_true (by kernel_rfl)
 | 3,_=>exact of_decide_eq_true (by kernel_rfl)
 | 4,_=>exact of_decide_eq_true (by kernel_rfl)
 | 5,_=>exact of_decide_eq_true (by kernel_rfl)
 | 6,_=>exact of_decide_eq_true (by kernel_rfl)
 | n+7,h=>exact absurd h (by omega)
end Sy
theorem item_cell (w:World) (T:TypeId) {k:Nat} (hk:k < 7):(w.alloc (.cells #[.string ⟨#[105,110,116,32,97,59]⟩,.string ⟨#[115,116,114,117,99,116,32,116,32,123,32,99,104,97,114,32,99,59,32,125,59]⟩,.string ⟨#[118,111,105,100,32,102,40,41,59]⟩,.string ⟨#[116,121,112,101,100,101,102,32,105,110,116,32,111,112,40,108,111,110,103,41,59]⟩,.string ⟨#[108,111,110,103,32,103,40,105,110,116,32,120,41,32,123,32,114,101,116,117,114,110,32,120,59,32,125]⟩,.string ⟨#[99,104,97,114,32,42,115,91,51,93,32,61,32,123,32,48,32,125,59]⟩,.string ⟨#[117,110,115,105,103,110,101,100,32,117,32,61,32,49,32,60,60,32,50,59]⟩] T)).cell? ⟨w.heap.size,k,none⟩=some (.string (Sy.itB k)):=by
 rw [World.cell?_alloc_at _ _ _ _ rfl]
 match k,hk with
 | 0,_=>exact rfl
 | 1,_=>exact rfl
 | 2,_=>exact rfl
 | 3,_=>exact rfl
 | 4,_=>exact rfl
 | 5,_=>exact rfl
 | 6,_=>exact rfl
 | n+7,h=>exact absurd h (by omega)
theorem quiet_1 {P:Program} {f:FuncId} {args:Array Value} {W:World} {v:Value} {n:Nat} (c:∀ m,Calls P f args (W.drewN m) fun e w'=>e=.returned v∧W.drewN m=w') :
    Calls P f args (W.drewN n) fun e w''=>e=.returned v∧∃ m,w''=W.drewN m:=(c n).mono fun _ _ h=>⟨h.1,n,h.2.symm⟩
theorem blank_walk (x y:Int) (hx:I64 x) (hy:I64 y) (w:World) (hl:LaidP w):Calls Tryz.prog 10 #[.int .i64 x,.int .i64 y] w fun e w'=>e=.returned (.bool true)∧Keeps No w w':=by
 have HL:=zz hl
 obtain ⟨i,hi,hie⟩:=low_nat x 7 hx (by decide)
 have HLX:=zz (fun W=>low_any x 7 hx (by decide) W)
 rw [hie] at HLX
 obtain ⟨k,hk,hke⟩:=low_nat y 7 hy (by decide)
 have HLY:=zz (fun W=>low_any y 7 hy (by decide) W)
 rw [hke] at HLY
 have hi7:i < 7:=by omega
 have hk7:k < 7:=by omega
 obtain ⟨p1,q1⟩:=Sy.one_at hi7
 obtain ⟨p2,q2⟩:=Sy.one_at hk7
 obtain ⟨p3,q3,q4⟩:=Sy.two_at hi7 hk7
 have s1:=Sy.itB_size hi7
 have s2:=Sy.itB_size hk7
 have s3:=Sy.dB_size hi7
 have s4:=Sy.dB_size hk7
 have HC1:=zz (item_cell w 9 hi7)
 have HC2:=zz (item_cell w 9 hk7)
 obtain ⟨a,ha⟩:∃ q,Sy.itB i=q:=⟨_,rfl⟩
 obtain ⟨b,hb⟩:∃ q,Sy.itB k=q:=⟨_,rfl⟩
 obtain ⟨da,hda⟩:∃ q,Sy.dB i=q:=⟨_,rfl⟩
 obtain ⟨db,hdb⟩:∃ q,Sy.dB k=q:=⟨_,rfl⟩
 rw [ha] at p1 q1 p3 q3 q4 s1 HC1
 rw [hb] at p2 q2 p3 q3 q4 s2 HC2
 rw [hda] at q1 q3 s3
 rw [hdb] at q2 q3 s4
 have HD1:=zz (fun W hW=>dump_to _ _ _ _ q1 p1 W hW)
 have HD2:=zz (fun W hW=>dump_to _ _ _ _ q2 p2 W hW)
 have HD3:=zz (fun W hW=>dump_to _ _ _ _ q3 p3 W hW)
 have HD5:=zz (fun W hW=>dump_to _ ⟨#[]⟩ _ _ Sy.none_dump Sy.none_ok W hW)
 have HI4:=zz (fun W hW=>items_to _ _ _ _ 2 q4 rfl p3 (fun z hz=>by
  have e:z=0∨z=(a.size:Int):=by simpa using hz
  unfold I64
  rcases e with e | e <;> rw [e] <;> omega) W hW)
 have HBA:Hid (I64 (a.size:Int)):=zz (by unfold I64; omega)
 have hi0:(0:Int)≤(i:Int):=by omega
 have hk0:(0:Int)≤(k:Int):=by omega
 clear ha hb hda hdb p1 q1 p2 q2 p3 q3 q4 hl hx hy hie hke hi7 hk7
 go_enter Tryz.func10,Tryz.ntmps10
 go_upto_region 2 with fail
 have HK1:=zz ((Keeps.refl No w).alloc (.cells #[.string ⟨#[105,110,116,32,97,59]⟩,.string ⟨#[115,116,114,117,99,116,32,116,32,123,32,99,104,97,114,32,99,59,32,125,59]⟩,.string ⟨#[118,111,105,100,32,102,40,41,59]⟩,.string ⟨#[116,121,112,101,100,101,102,32,105,110,116,32,111,112,40,108,111,110,103,41,59]⟩,.string ⟨#[108,111,110,103,32,103,40,105,110,116,32,120,41,32,123,32,114,101,116,117,114,110,32,120,59,32,125]⟩,.string ⟨#[99,104,97,114,32,42,115,91,51,93,32,61,32,123,32,48,32,125,59]⟩,.string ⟨#[117,110,115,105,103,110,101,100,32,117,32,61,32,49,32,60,60,32,50,59]⟩] 9))
 obtain ⟨w1,hw1⟩:∃ W,w.alloc (.cells #[.string ⟨#[105,110,116,32,97,59]⟩,.string ⟨#[115,116,114,117,99,116,32,116,32,123,32,99,104,97,114,32,99,59,32,125,59]⟩,.string ⟨#[118,111,105,100,32,102,40,41,59]⟩,.string ⟨#[116,121,112,101,100,101,102,32,105,110,116,32,111,112,40,108,111,110,103,41,59]⟩,.string ⟨#[108,111,110,103,32,103,40,105,110,116,32,120,41,32,123,32,114,101,116,117,114,110,32,120,59,32,125]⟩,.string ⟨#[99,104,97,114,32,42,115,91,51,93,32,61,32,123,32,48,32,125,59]⟩,.string ⟨#[117,110,115,105,103,110,101,100,32,117,32,61,32,49,32,60,60,32,50,59]⟩] 9)=W:=⟨_,rfl⟩
 rw [hw1] at HC1 HC2 HK1 ⊢
 have c1:=HC1.out
 have c2:=HC2.out
 clear hw1 HC1 HC2
 obtain ⟨B,hB⟩:∃ q,w.heap.size=q:=⟨_,rfl⟩
 rw [hB] at c1 c2 ⊢
 clear hB
 go_quiet ((go_at_call 18; first | exact quiet_1 (fun m=>HLX.out _) | exact quiet_1 (fun m=>HLY.out _)))
 have HK2:=zz (HK1.out.drewN nq)
 generalize w1.drewN nq=w2 at HK2 ⊢
 clear c1 c2 HK1
 go_wp2_with fail
 refine (HD1.out w2 (HL.out.no HK2.out)).mono ?_
 rintro e' w3 ⟨rfl,hk'⟩
 go_upto_region 4 with fail
 have hn':(w3.alloc (.cells #[.int .i64 0,.int .i64 0] 25)).heap[w3.heap.size]?=some (.cells #[.int .i64 0,.int .i64 0] 25 (0,0)):=heap_alloc_new _ _
 have hk2:Keeps No w3 (w3.alloc (.cells #[.int .i64 0,.int .i64 0] 25)):=(Keeps.refl _ _).alloc _
 generalize w3.alloc (.cells #[.int .i64 0,.int .i64 0] 25)=w4 at hn' hk2 ⊢
 obtain ⟨R4,hR'⟩:∃ q,w3.heap.size=q:=⟨_,rfl⟩
 rw [hR'] at hn' ⊢
 have HK4:=zz ((HK2.out.trans hk' (fun _ _ e=>e)).trans hk2 (fun _ _ e=>e))
 have HR4_4:=zz hn'
 clear hR' hn' hk' hk2
 go_wp2_with fail
 refine (HD2.out w4 (HL.out.no HK4.out)).mono ?_
 rintro e' w5 ⟨rfl,hk'⟩
 go_upto_region 5 with fail
 have hn':(w5.alloc (.cells #[.int .i64 0,.int .i64 0] 25)).heap[w5.heap.size]?=some (.cells #[.int .i64 0,.int .i64 0] 25 (0,0)):=heap_alloc_new _ _
 have hk2:Keeps No w5 (w5.alloc (.cells #[.int .i64 0,.int .i64 0] 25)):=(Keeps.refl _ _).alloc _
 generalize w5.alloc (.cells #[.int .i64 0,.int .i64 0] 25)=w6 at hn' hk2 ⊢
 obtain ⟨R6,hR'⟩:∃ q,w5.heap.size=q:=⟨_,rfl⟩
 rw [hR'] at hn' ⊢
 have HK6:=zz ((HK4.out.trans hk' (fun _ _ e=>e)).trans hk2 (fun _ _ e=>e))
 have HR6_6:=zz hn'
 have HR4_6:=zz (wrong_kept hk2 (wrong_kept hk' HR4_4.out))
 clear hR' hn' hk' hk2
 go_wp2_with fail
 refine (HD3.out w6 (HL.out.no HK6.out)).mono ?_
 rintro e' w7 ⟨rfl,hk'⟩
 go_upto_region 6 with fail
 have hn':(w7.alloc (.cells #[.int .i64 0,.int .i64 0] 25)).heap[w7.heap.size]?=some (.cells #[.int .i64 0,.int .i64 0] 25 (0,0)):=heap_alloc_new _ _
 have hk2:Keeps No w7 (w7.alloc (.cells #[.int .i64 0,.int .i64 0] 25)):=(Keeps.refl _ _).alloc _
 generalize w7.alloc (.cells #[.int .i64 0,.int .i64 0] 25)=w8 at hn' hk2 ⊢
 obtain ⟨R8,hR'⟩:∃ q,w7.heap.size=q:=⟨_,rfl⟩
 rw [hR'] at hn' ⊢
 have HK8:=zz ((HK6.out.trans hk' (fun _ _ e=>e)).trans hk2 (fun _ _ e=>e))
 have HR8_8:=zz hn'
 have HR4_8:=zz (wrong_kept hk2 (wrong_kept hk' HR4_6.out))
 have HR6_8:=zz (wrong_kept hk2 (wrong_kept hk' HR6_6.out))
 clear hR' hn' hk' hk2
 go_wp2_with fail
 refine (HI4.out w8 (HL.out.no HK8.out)).mono ?_
 rintro e' w9 ⟨ra,rc,rfl,hk',hsl⟩
 go_upto_region 7 with fail
 have hn':(w9.alloc (.cells #[.int .i64 0,.int .i64 0] 25)).heap[w9.heap.size]?=some (.cells #[.int .i64 0,.int .i64 0] 25 (0,0)):=heap_alloc_new _ _
 have hk2:Keeps No w9 (w9.alloc (.cells #[.int .i64 0,.int .i64 0] 25)):=(Keeps.refl _ _).alloc _
 have HSL:=zz (hsl.no hk2)
 clear hsl
 generalize w9.alloc (.cells #[.int .i64 0,.int .i64 0] 25)=w10 at hn' hk2 HSL ⊢
 obtain ⟨R10,hR'⟩:∃ q,w9.heap.size=q:=⟨_,rfl⟩
 rw [hR'] at hn' ⊢
 have HK10:=zz ((HK8.out.trans hk' (fun _ _ e=>e)).trans hk2 (fun _ _ e=>e))
 have HR10_10:=zz hn'
 have HR4_10:=zz (wrong_kept hk2 (wrong_kept hk' HR4_8.out))
 have HR6_10:=zz (wrong_kept hk2 (wrong_kept hk' HR6_8.out))
 have HR8_10:=zz (wrong_kept hk2 (wrong_kept hk' HR8_8.out))
 clear hR' hn' hk' hk2
 go_wp2_with fail
 refine (HD5.out w10 (HL.out.no HK10.out)).mono ?_
 rintro e' w11 ⟨rfl,hk'⟩
 go_upto_region 8 with fail
 have hn':(w11.alloc (.cells #[.int .i64 0,.int .i64 0] 25)).heap[w11.heap.size]?=some (.cells #[.int .i64 0,.int .i64 0] 25 (0,0)):=heap_alloc_new _ _
 have hk2:Keeps No w11 (w11.alloc (.cells #[.int .i64 0,.int .i64 0] 25)):=(Keeps.refl _ _).alloc _
 generalize w11.alloc (.cells #[.int .i64 0,.int .i64 0] 25)=w12 at hn' hk2 ⊢
 obtain ⟨R12,hR'⟩:∃ q,w11.heap.size=q:=⟨_,rfl⟩
 rw [hR'] at hn' ⊢
 have HK12:=zz ((HK10.out.trans hk' (fun _ _ e=>e)).trans hk2 (fun _ _ e=>e))
 have HR12_12:=zz hn'
 have HR4_12:=zz (wrong_kept hk2 (wrong_kept hk' HR4_10.out))
 have HR6_12:=zz (wrong_kept hk2 (wrong_kept hk' HR6_10.out))
 have HR8_12:=zz (wrong_kept hk2 (wrong_kept hk' HR8_10.out))
 have HR10_12:=zz (wrong_kept hk2 (wrong_kept hk' HR10_10.out))
 have HSL12:=zz ((HSL.out.no hk').no hk2)
 clear hR' hn' hk' hk2
 have z0:w12.cell? ⟨R4,0,none⟩=some (.int .i64 0):=by rw [cell_of_row w12 R4 0 _ _ _ HR4_12.out]; rfl
 have z1:w12.cell? ⟨R6,0,none⟩=some (.int .i64 0):=by rw [cell_of_row w12 R6 0 _ _ _ HR6_12.out]; rfl
 have z2:w12.cell? ⟨R8,0,none⟩=some (.int .i64 0):=by rw [cell_of_row w12 R8 0 _ _ _ HR8_12.out]; rfl
 have z3:w12.cell? ⟨R10,0,none⟩=some (.int .i64 0):=by rw [cell_of_row w12 R10 0 _ _ _ HR10_12.out]; rfl
 have z4:w12.cell? ⟨R12,0,none⟩=some (.int .i64 0):=by rw [cell_of_row w12 R12 0 _ _ _ HR12_12.out]; rfl
 have HCS:Hid (∀ W,W=w12.alloc (.cells #[.int .i64 0,.int .i64 (a.size:Int)] 3)→Calls Tryz.prog 15 #[.slice ra 2 rc,.slice (some ⟨w12.heap.size,0,none⟩) 2 2] W fun e w'=>e=.returned (.bool true)∧Keeps No w12 w'):=zz (fun W hW=>by
  subst hW
  have hk:=(Keeps.refl No w12).alloc (.cells #[.int .i64 0,.int .i64 (a.size:Int)] 3)
  refine (same_to ⟨ra,2,rc,[0,(a.size:Int)]⟩ ⟨some ⟨w12.heap.size,0,none⟩,2,2,[0,(a.size:Int)]⟩ true (decide_eq_true rfl) _ (HSL12.out.no hk) (two_sl (heap_alloc_new _ _) (by unfold I64; decide) HBA.out) (show 2≤1000000 by decide)).mono ?_
  rintro e w' ⟨h1,h2⟩
  exact ⟨h1,hk.trans h2 (fun _ _ e=>e)⟩)
 go_wp2_with fail
 refine (HCS.out _ rfl).mono ?_
 rintro e w20 ⟨rfl,hk20⟩
 have HK20:=zz (HK12.out.trans hk20 (fun _ _ e=>e))
 have HAW:=zz (awake_any w20 (HL.out.no HK20.out))
 clear hk20
 go_wp2_with fail
 refine HAW.out.mono ?_
 rintro e' w21 ⟨rfl,hk21⟩
 have HK21:=zz (HK20.out.trans hk21 (fun _ _ e=>e))
 clear hk21
 go_wp2_with fail
 go_returns
 exact ⟨rfl,HK21.out⟩
end Go.Proofs.YtflbkdfbjofllaaGreatDoor
