import Derived.Test.YtjgkacggjhobmaaGreatDoorLyPkK
import Derived.Lib.ItoaMem
import Derived.Lib.LaidTab
import Derived.Sort.Grow
set_option maxRecDepth 100000
set_option maxHeartbeats 25600000
set_option linter.unusedSimpArgs false
set_option linter.unusedVariables false
namespace Go.Proofs.YtjgkacggjhobmaaGreatDoor
open Go.RowKit Lx
theorem gP : Tryz.prog.globalNamed "internal/strconv.uint64pow10" = some 3 := by kernel_rfl
structure LaidP (w:World):Prop where
 tab : Lib.TabIs Tryz.prog w "internal/strconv.uint64pow10" .u64 Lib.pow10Tab
 blk:3 < w.heap.size
theorem LaidP.keep {S:Nat→Prop} {w w':World} (h:LaidP w) (hk:Keeps S w w') (hS:¬ S 3):LaidP w':=by
 refine ⟨?_,Nat.lt_of_lt_of_le h.blk hk.size⟩;have h1:=h.tab;unfold Lib.TabIs World.var? at h1 ⊢;rw [gP] at h1 ⊢;simp only [Option.bind_some] at h1 ⊢;rw [hk.block _ h.blk hS];exact h1
theorem LaidP.no {w w':World} (h:LaidP w) (hk:Keeps No w w'):LaidP w':=h.keep hk (fun e=>e)
theorem star_list:∀ n,Lib.repeatL [42] n=(Sy.starL n).data.toList
 | 0=>rfl
 | n+1=>by
   have e:∀ m,(Sy.starL m++(⟨#[42]⟩:ByteArray)).data.toList=[42]++(Sy.starL m).data.toList:=by
    intro m;rw [ByteArray.data_append,Array.toList_append];show (Sy.starL m).data.toList++[42]=[42]++(Sy.starL m).data.toList
    induction m with
    | zero=>rfl
    | succ m ih =>
      show (Sy.starL m++(⟨#[42]⟩:ByteArray)).data.toList++[42]=[42]++(Sy.starL m++(⟨#[42]⟩:ByteArray)).data.toList;rw [ByteArray.data_append,Array.toList_append];show ((Sy.starL m).data.toList++[42])++[42]=[42]++((Sy.starL m).data.toList++[42]);rw [ih]; simp [ih]
   show [42]++Lib.repeatL [42] n=_;rw [star_list n];exact (e n).symm
theorem star_any (n:Nat) (hn:n≤1000000) (w:World):Calls Tryz.prog 19 #[.string ⟨#[42]⟩,.int .i64 (n:Int)] w fun e w'=>e=.returned (.string (Sy.starL n))∧Keeps No w w':=by
 refine (Tryz.strings_Repeat ⟨#[42]⟩ n w (by omega) (by show 1 * n≤_; omega)).mono ?_;rintro e w' ⟨rfl,hb⟩;refine ⟨?_,Keeps.of_below hb⟩;rw [show (⟨#[42]⟩:ByteArray).data.toList=[42] from rfl,star_list n]
theorem star_size:∀ n,(Sy.starL n).size=n
 | 0=>rfl
 | n+1=>by
   show (Sy.starL n++(⟨#[42]⟩:ByteArray)).size=_;rw [ByteArray.size_append,star_size n]; rfl
theorem text_any (b:ByteArray) (s:Int) (t:ByteArray) (h0:0≤s) (h1:s≤1000000) (hb:b.size≤1000000000000) (ht:Sy.tyM ⟨b,s⟩=t) (w:World):Calls Tryz.prog 13 #[.agg #[.string b,.int .i64 s]] w fun e w'=>e=.returned (.string t)∧Keeps No w w':=by
 obtain ⟨n,rfl⟩:∃ n:Nat,s=n:=⟨s.toNat,by omega⟩;have HR:=zz (fun W=>star_any n (by omega) W);have HT:Hid (b++Sy.starL n=t):=zz (by rw [← ht]; unfold Sy.tyM; simp);obtain ⟨u,hu⟩:∃ u,Sy.starL n=u:=⟨_,rfl⟩;have hus:u.size≤1000000:=by rw [← hu,star_size]; omega
 rw [hu] at HR HT;clear hu ht h0;go_enter Tryz.func13,Tryz.ntmps13;go_upto_region 1 with fail
 have hv:(w.alloc (.cells #[.string b,.int .i64 (n:Int)] 56)).heap[w.heap.size]?=some (.cells #[.string b,.int .i64 (n:Int)] 56 (0,0)):=heap_alloc_new _ _;have hk1:Keeps No w (w.alloc (.cells #[.string b,.int .i64 (n:Int)] 56)):=(Keeps.refl _ _).alloc _;generalize w.alloc (.cells #[.string b,.int .i64 (n:Int)] 56)=w1 at hv hk1 ⊢;obtain ⟨R,hR⟩:∃ q,w.heap.size=q:=⟨_,rfl⟩;rw [hR] at hv ⊢;have HK1:=zz hk1;have p0:∀ u:KW w1,u.W.cell? ⟨R,0,none⟩=some (.string b):=fun u=>u.cell (by rw [cell_of_row w1 R 0 _ _ _ hv]; rfl)
 have p1:∀ u:KW w1,u.W.cell? ⟨R,1,none⟩=some (.int .i64 (n:Int)):=fun u=>u.cell (by rw [cell_of_row w1 R 1 _ _ _ hv]; rfl)
 have hne:Nonempty (KW w1):=⟨KW.of _⟩;clear hv hk1 hR;refine wp_region_class (C:=fun W=>∃ u:KW w1,W=u.W) (by kernel_rfl) (by kernel_rfl) ⟨⟨World.drew _,(Keeps.refl _ _).drew⟩,rfl⟩ ?_
 repeat (go_big_quiet_step (first | (go_at_call 19; with_reducible refine kw_call _ (HR.out _))))
 refine wpQuiet_nil ?_;rintro _ ⟨T,rfl⟩;have HF:Hid (Keeps No w T.W):=zz (HK1.out.trans T.h (fun _ _ e=>e));go_wp2_with fail;go_returns;exact ⟨by rw [HT.out]; rfl,HF.out⟩
theorem dec_list:∀ (f n:Nat) (acc:List UInt8),n < 10 ^ f→0 < f→Sy.decL f n acc=Lib.decDigits n++acc
 | 0,n,acc,h,hf=>absurd hf (by decide)
 | f+1,n,acc,h,hf=>by
   unfold Sy.decL;rw [Lib.decDigits];by_cases h10:n < 10
   · rw [if_pos h10,dif_pos h10]; rfl
   · rw [if_neg h10,dif_neg h10];have hf0:0 < f:=by
      rcases Nat.eq_zero_or_pos f with e | e
      · subst e; simp at h; omega
      · exact e
     rw [dec_list f (n / 10) _ (by rw [Nat.pow_succ] at h; omega) hf0];simp
theorem decM_eq (u:Nat) (hu:u < 18446744073709551616):(⟨(Lib.decDigits u).toArray⟩:ByteArray)=Sy.decM (u:Int):=by
 unfold Sy.decM;rw [Int.toNat_natCast,dec_list 20 u [] (by omega) (by decide),List.append_nil]
theorem holds0 (w:World) (T:TypeId) (nd:Nat) (hs:nd≤24):Go.Sort.Holds (fun (b:UInt8)=>Value.int .u8 (b.toNat:Int)) (w.alloc (.cells Lib.zeros24 T)) w.heap.size 0 (Array.replicate nd (0:UInt8)):=fun j hj=>by
 have hj':j < nd:=by simpa using hj
 refine ⟨?_,World.frozen?_alloc_new _ _ _ _⟩;rw [World.cell?_alloc_new,Lib.zeros24_at _ (by omega),getElem!_pos _ j hj];simp
theorem Keeps.of_grow (w:World) (os:Array Obj) (k:Nat):Keeps No w (Go.Sort.grow (w.drewN k) os) :=
 ⟨rfl,rfl,rfl,by rw [Go.Sort.size_grow]; exact Nat.le_add_right _ _,fun q hq _=>Go.Sort.heap_grow_old (w.drewN k) os hq⟩
theorem format_any (u:Nat) (hu64:u < 18446744073709551616) (w:World) (hl:LaidP w):Calls Tryz.prog 112 #[.int .u64 (u:Int),.int .i64 10] w fun e w'=>e=.returned (.string ⟨(Lib.decDigits u).toArray⟩)∧Keeps No w w':=by
 by_cases hs:u < 100
 · have hs1:(u:Int) < 100:=by omega
   have hwr:IntKind.i64.wrap (u:Int)=(u:Int):=by rw [IntKind.wrap_i64]; omega
   go_enter Tryz.func112,Tryz.ntmps112;go_wp2_with fail;refine (Tryz.internal_strconv_small u hs w).mono ?_;rintro e w' ⟨rfl,rfl⟩;go_wp2_with fail;go_returns;exact ⟨rfl,Keeps.refl _ _⟩
 · have hs1:¬ (u:Int) < 100:=by omega
   have hu1:1≤u:=by omega
   have hnd20:Lib.nDigits u≤20:=by have:=Lib.numDigits_eq u hu1 hu64; split at this <;> omega
   have hb3:Lib.nDigits u≤24:=by omega
   have hal:Tryz.prog.arrayLen 189=24:=by kernel_rfl
   have HND:=zz (fun W (h:LaidP W)=>Tryz.internal_strconv_numDigits u hu1 hu64 W h.tab);obtain ⟨nd,hnd⟩:∃ d,Lib.nDigits u=d:=⟨_,rfl⟩;rw [hnd] at HND hb3;have hsl1:∀ W,(Instr.sliceAt 189 (.pointer (some ⟨w.heap.size,0,none⟩)) none (some (.int .i64 (nd:Int))) none).run Tryz.prog W=.ok (.slice (some ⟨w.heap.size,0,none⟩) nd 24) W:=fun W=>by
    rw [run_sliceAt_array_h W 189 ⟨w.heap.size,0,none⟩ (by simp [Program.arrayLen,Program.elem,Tryz.underlying189]) .i64 (nd:Int) (by omega) (by rw [hal]; omega)];go_simp
   have hH0:=holds0 w 189 nd hb3;have hfmt:=Tryz.internal_strconv_formatBase10 w.heap.size 0 24 u (Array.replicate nd 0) (w.alloc (.cells Lib.zeros24 189)) hH0 (by rw [Array.size_replicate,← hnd]; exact Lib.lt_pow_nDigits u) hu64 (by rw [Array.size_replicate]; omega);rw [Array.size_replicate] at hfmt;have HFM:=zz hfmt;have HH0:=zz hH0;have HL:=zz hl;have HNE:=zz hnd;clear hH0 hal hfmt hl hnd;go_enter Tryz.func112,Tryz.ntmps112;go_wp2_with fail;refine (HND.out _ (HL.out.no ((Keeps.refl _ _).alloc _))).mono ?_;rintro e w' ⟨rfl,rfl⟩;go_wp2_with fail;refine HFM.out.mono ?_;rintro e w' ⟨rfl,k,v',dk,rfl,hF⟩;have hcv:(convert 28 9 (.slice (some ⟨w.heap.size,0,none⟩) nd 24)).run Tryz.prog ((Go.Sort.putRow (fun (b:UInt8)=>Value.int .u8 (b.toNat:Int)) (w.alloc (.cells Lib.zeros24 189)) w.heap.size 0 dk).drewN k)=.ok (.string ⟨(Lib.decDigits u).toArray⟩) ((Go.Sort.putRow (fun (b:UInt8)=>Value.int .u8 (b.toNat:Int)) (w.alloc (.cells Lib.zeros24 189)) w.heap.size 0 dk).drewN k):=by
    have hF':=hF;rw [← HNE.out] at hF';have h:=run_convert_bytes_back (P:=Tryz.prog) ((Go.Sort.putRow (fun (b:UInt8)=>Value.int .u8 (b.toNat:Int)) (w.alloc (.cells Lib.zeros24 189)) w.heap.size 0 dk).drewN k) 28 9 5 ⟨w.heap.size,0,none⟩ 24 (Lib.decDigits u) Tryz.underlying28 Tryz.underlying5 Tryz.underlying9 (fun j hj=>by
     rw [Lib.row_is_numeral hF' j hj,Lib.add_plain,World.cell?_drewN];exact Go.Sort.cell?_putRow (fun (b:UInt8)=>Value.int .u8 (b.toNat:Int)) _ w.heap.size 0 _ dk HH0.out (by rw [hF.size,Array.size_replicate]) j (by rw [hF.size]; rw [Lib.decDigits_length,HNE.out] at hj; exact hj))
    rw [Lib.decDigits_length,HNE.out] at h;exact h
   have HKF:Hid (Keeps No w ((Go.Sort.putRow (fun (b:UInt8)=>Value.int .u8 (b.toNat:Int)) (w.alloc (.cells Lib.zeros24 189)) w.heap.size 0 dk).drewN k)):=zz (by
    rw [Go.Sort.alloc_eq_grow];obtain ⟨os',_,e⟩:=Go.Sort.putRow_grow_new (fun (b:UInt8)=>Value.int .u8 (b.toNat:Int)) w #[.cells Lib.zeros24 189] w.heap.size 0 dk (Nat.le_refl _);rw [e];exact Keeps.of_grow w os' k)
   clear hF;go_wp2_with fail;go_returns;exact ⟨rfl,HKF.out⟩
theorem decimal_any (n:Int) (t:ByteArray) (h0:0≤n) (h1:n≤18446744073709551615) (ht:Sy.decM n=t) (w:World) (hl:LaidP w):Calls Tryz.prog 76 #[.int .u64 n] w fun e w'=>e=.returned (.string t)∧Keeps No w w':=by
 obtain ⟨u,rfl⟩:∃ u:Nat,n=u:=⟨n.toNat,by omega⟩;have HF:=zz (fun W (h:LaidP W)=>format_any u (by omega) W h);rw [decM_eq u (by omega),ht] at HF;have HL:=zz hl;clear ht h0 h1 hl;have hF2:∀ W,LaidP W→Calls Tryz.prog 97 #[.int .u64 (u:Int),.int .i64 10] W fun e w'=>e=.returned (.string t)∧Keeps No W w':=fun W hW=>by
  go_enter Tryz.func97,Tryz.ntmps97;go_wp2_with fail;refine (HF.out W hW).mono ?_;rintro e w' ⟨rfl,hk⟩;have HK:=zz hk;clear hk;go_wp2_with fail;go_returns;exact ⟨rfl,HK.out⟩
 have HF2:=zz hF2;clear hF2;go_enter Tryz.func76,Tryz.ntmps76;go_wp2_with fail;refine (HF2.out w HL.out).mono ?_;rintro e w' ⟨rfl,hk⟩;have HK:=zz hk;clear hk;go_wp2_with fail;go_returns;exact ⟨rfl,HK.out⟩
abbrev BIG:Nat:=1000000000000
namespace Sy
def Iv (x:Wr):Prop:=-(x.out.size:Int)≤x.depth∧x.depth≤(x.out.size:Int)∧0≤x.most∧x.most≤4000000000000
theorem part_size (s:ByteArray) (x:Wr):(partW s x).out.size=x.out.size+(if x.fresh then 0 else 1)+s.size:=by
 unfold partW;cases h:x.fresh
 · simp only [Bool.false_eq_true,if_false,ByteArray.size_append]; rfl
 · simp only [if_true,ByteArray.size_append]; rfl
theorem part_le (s:ByteArray) (x:Wr):x.out.size+s.size≤(partW s x).out.size:=by rw [part_size]; omega
theorem part_iv {x:Wr} (h:Iv x) (s:ByteArray):Iv (partW s x):=by
 have:=part_le s x;obtain ⟨h1,h2,h3,h4⟩:=h;refine ⟨?_,?_,h3,h4⟩
 · show _≤x.depth; omega
 · show x.depth≤_; omega
theorem open_size (x:Wr):(openW x).out.size=x.out.size+(if x.fresh then 0 else 1)+1:=by
 show (partW ⟨#[40]⟩ x).out.size=_;rw [part_size]; rfl
theorem open_iv {x:Wr} (h:Iv x) (hb:(openW x).out.size≤BIG):Iv (openW x):=by
 have:=open_size x;obtain ⟨h1,h2,h3,h4⟩:=h;have e:(openW x).depth=x.depth+1:=rfl;have e2:(openW x).most=max x.most (x.depth+1):=rfl;refine ⟨?_,?_,?_,?_⟩ <;> (try rw [e]) <;> (try rw [e2]) <;> (unfold BIG at hb; omega)
theorem parts_le:∀ (l:List ByteArray) (x:Wr),x.out.size≤(partsW l x).out.size
 | [],x=>Nat.le_refl _
 | s::t,x=>Nat.le_trans (Nat.le_trans (Nat.le_add_right _ _) (part_le s x)) (parts_le t (partW s x))
theorem parts_iv:∀ (l:List ByteArray) {x:Wr},Iv x→Iv (partsW l x)
 | [],x,h=>h
 | s::t,x,h=>parts_iv t (part_iv h s)
theorem openP_le (l:List ByteArray) (x:Wr):x.out.size+1≤(openP l x).out.size:=by
 have:=open_size x;have:=parts_le l (openW x);unfold openP; omega
theorem openP_iv {l:List ByteArray} {x:Wr} (h:Iv x) (hb:(openP l x).out.size≤BIG):Iv (openP l x) :=
 parts_iv l (open_iv h (Nat.le_trans (parts_le l _) hb))
theorem close_size (x:Wr):(closeW x).out.size=x.out.size+1:=by
 show (x.out++(⟨#[41]⟩:ByteArray)).size=_;rw [ByteArray.size_append]; rfl
theorem close_iv {x:Wr} (h:Iv x):Iv (closeW x):=by
 have:=close_size x;obtain ⟨h1,h2,h3,h4⟩:=h;have e:(closeW x).depth=x.depth - 1:=rfl;refine ⟨?_,?_,h3,h4⟩ <;> (try rw [e]) <;> omega
end Sy
structure WE (w:World) (W B:Nat) (x:Sy.Wr):Prop where
 bw:BW w W B x
 lp:LaidP w
 gb:3 < B
 iv:Sy.Iv x
structure WX (w w':World) (W B:Nat) (x:Sy.Wr):Prop where
 p:WE w' W B x
 k:Keeps (U8 w B W) w w'
section
variable {a b c w w':World} {W B:Nat} {x y:Sy.Wr}
theorem LaidP.u8 (h:LaidP w) (hk:Keeps (U8 w B W) w w') (hg:3 < B) (hW:B≤W):LaidP w':=h.keep hk (fun e=>by
 rcases e with e | e
 · omega
 · have:=e.1; omega)
theorem WX.of (h:WE w W B x) (g:WA w w' W B y) (hi:Sy.Iv y):WX w w' W B y:=⟨⟨g.p,h.lp.u8 g.k h.gb h.bw.lo,h.gb,hi⟩,g.k⟩
theorem WX.wa (h:WX w w' W B x):WA w w' W B x:=⟨h.p.bw,h.k⟩
theorem WX.trans (h:WX a b W B x) (g:WX b c W B y):WX a c W B y:=⟨g.p,(h.wa.trans g.wa).k⟩
theorem WE.no (h:WE w W B x) (hk:Keeps No w w'):WE w' W B x:=⟨h.bw.no hk,h.lp.no hk,h.gb,h.iv⟩
theorem WX.refl (h:WE w W B x):WX w w W B x:=⟨h,Keeps.refl _ _⟩
theorem WX.no (h:WX a b W B x) (hk:Keeps No b c):WX a c W B x:=⟨h.p.no hk,(h.wa.no hk).k⟩
theorem WX.after (hk:Keeps No a b) (h:WX b c W B x):WX a c W B x:=⟨h.p,(WA.after hk h.wa).k⟩
theorem WE.cc (h:WE w W B x) (j:Nat) (v:Value) (hj:j=2∧v=.int .i64 x.depth∨j=3∧v=.int .i64 x.most∨j=4∧v=.bool x.fresh):w.cell? ⟨W,j,none⟩=some v:=by
 obtain ⟨p,u,_,h1,_⟩:=h.bw.ex;rw [cell_of_row w W j _ _ _ h1];rcases hj with ⟨rfl,rfl⟩ | ⟨rfl,rfl⟩ | ⟨rfl,rfl⟩ <;> rfl
theorem WE.ff (h:WE w W B x) (j:Nat):w.frozen? ⟨W,j,none⟩=false:=by
 obtain ⟨p,u,_,h1,_⟩:=h.bw.ex;exact frozen_of_row w W j _ _ h1
theorem WE.set (h:WE w W B x) (j:Nat) (v:Value) (y:Sy.Wr) (ho:y.out=x.out) (hj:j=2∧v=.int .i64 y.depth∧y.most=x.most∧y.fresh=x.fresh∨j=3∧v=.int .i64 y.most∧y.depth=x.depth∧y.fresh=x.fresh∨j=4∧v=.bool y.fresh∧y.depth=x.depth∧y.most=x.most) (hi:Sy.Iv y):WX w (w.setCell ⟨W,j,none⟩ v) W B y:=by
 obtain ⟨p,u,hp,h1,h2,h3⟩:=h.bw.ex;have hk:Keeps (U8 w B W) w (w.setCell ⟨W,j,none⟩ v):=(Keeps.refl _ _).setCell (p:=⟨W,j,none⟩) (.inl (.inl rfl)) _;refine ⟨⟨BW.put (x:=x) j v h.bw.lo h.bw.hB h1 ?_ hp (by rw [ho]; exact h2) h3,h.lp.u8 hk h.gb h.bw.lo,h.gb,hi⟩,hk⟩;rcases hj with ⟨rfl,rfl,e1,e2⟩ | ⟨rfl,rfl,e1,e2⟩ | ⟨rfl,rfl,e1,e2⟩ <;> rw [e1,e2] <;> rfl
end
theorem wbyte_x (W B:Nat) (x:Sy.Wr) (c:UInt8) (z:Int) (hz:z=(c.toNat:Int)) (w:World) (h:WE w W B x) (hs:x.out.size+1≤BIG):Calls Tryz.prog 98 #[.pointer (some ⟨W,0,none⟩),.int .u8 z] w fun e w'=>e=.returned .nilIface∧WX w w' W B { x with out:=x.out++⟨#[c]⟩ }:=by
 subst hz;refine (wbyte_any W B x c w h.bw (by unfold BIG at hs; omega)).mono ?_;rintro e w' ⟨he,hw⟩;refine ⟨he,WX.of h hw ?_⟩;have e1:(x.out++(⟨#[c]⟩:ByteArray)).size=x.out.size+1:=by rw [ByteArray.size_append]; rfl
 obtain ⟨h1,h2,h3,h4⟩:=h.iv;refine ⟨?_,?_,h3,h4⟩
 · show -((x.out++(⟨#[c]⟩:ByteArray)).size:Int)≤x.depth; omega
 · show x.depth≤((x.out++(⟨#[c]⟩:ByteArray)).size:Int); omega
theorem wstring_x (W B:Nat) (x:Sy.Wr) (s:ByteArray) (w:World) (h:WE w W B x) (hs:x.out.size+s.size≤BIG):Calls Tryz.prog 30 #[.pointer (some ⟨W,0,none⟩),.string s] w fun e w'=>e=.returned (.tuple #[.int .i64 s.size,.nilIface])∧WX w w' W B { x with out:=x.out++s }:=by
 refine (wstring_any W B x s w h.bw (by unfold BIG at hs; omega)).mono ?_;rintro e w' ⟨he,hw⟩;refine ⟨he,WX.of h hw ?_⟩;have e1:(x.out++s).size=x.out.size+s.size:=ByteArray.size_append;obtain ⟨h1,h2,h3,h4⟩:=h.iv;refine ⟨?_,?_,h3,h4⟩
 · show -((x.out++s).size:Int)≤x.depth; omega
 · show x.depth≤((x.out++s).size:Int); omega
theorem part_any (W B:Nat) (x:Sy.Wr) (s:ByteArray) (w:World) (h:WE w W B x) (hs:(Sy.partW s x).out.size≤BIG):Calls Tryz.prog 78 #[.pointer (some ⟨W,0,none⟩),.string s] w fun e w'=>e=.returned (.tuple #[])∧WX w w' W B (Sy.partW s x):=by
 have hsz:=Sy.part_size s x;obtain ⟨f,hf⟩:∃ f,x.fresh=f:=⟨_,rfl⟩;have c4:w.cell? ⟨W,4,none⟩=some (.bool f):=h.cc 4 _ (by rw [hf]; exact .inr (.inr ⟨rfl,rfl⟩));have HH:=zz h;clear h;cases f with
 | true =>
   have HB2:Hid (x.out.size+s.size≤BIG):=zz (by rw [hf,if_pos rfl] at hsz; omega);have HEQ:Hid (({ x with out:=x.out++s,fresh:=false }:Sy.Wr)=Sy.partW s x):=zz (by unfold Sy.partW; rw [if_pos hf]);have z4:w.frozen? ⟨W,4,none⟩=false:=HH.out.ff 4;clear hsz hf hs;go_enter Tryz.func78,Tryz.ntmps78;go_upto_region 3 with fail
   have HX3:=zz (HH.out.set 4 (.bool false) { x with fresh:=false } rfl (.inr (.inr ⟨rfl,rfl,rfl,rfl⟩)) HH.out.iv);generalize w.setCell ⟨W,4,none⟩ (.bool false)=w3 at HX3 ⊢;clear c4 z4;go_wp2_with fail;refine (wstring_x W B _ s w3 HX3.out.p HB2.out).mono ?_;rintro e w4 ⟨rfl,hx⟩;have HX4:=zz (HX3.out.trans hx);clear hx;go_wp2_with fail;go_returns;exact ⟨rfl,by rw [← HEQ.out]; exact HX4.out⟩
 | false =>
   have e1:(x.out++(⟨#[32]⟩:ByteArray)).size=x.out.size+1:=by rw [ByteArray.size_append]; rfl
   have HB1:Hid (x.out.size+1≤BIG):=zz (by rw [hf,if_neg (by decide)] at hsz; omega);have HB2:Hid ((x.out++(⟨#[32]⟩:ByteArray)).size+s.size≤BIG):=zz (by rw [hf,if_neg (by decide)] at hsz; omega);have HEQ:Hid (({ x with out:=x.out++⟨#[32]⟩++s,fresh:=false }:Sy.Wr)=Sy.partW s x):=zz (by unfold Sy.partW; rw [hf,if_neg (by decide)]);have HF:=zz hf;clear hsz hf hs e1;go_enter Tryz.func78,Tryz.ntmps78;go_wp2_with fail;refine (wbyte_x W B x 32 32 rfl w HH.out HB1.out).mono ?_;rintro e w2 ⟨rfl,hx⟩;have HX2:=zz hx;clear hx c4;have c4:w2.cell? ⟨W,4,none⟩=some (.bool false):=HX2.out.p.cc 4 _ (by rw [← HF.out]; exact .inr (.inr ⟨rfl,rfl⟩));have z4:w2.frozen? ⟨W,4,none⟩=false:=HX2.out.p.ff 4;go_upto_region 3 with fail
   have HX3:=zz (HX2.out.trans (HX2.out.p.set 4 (.bool false) { x with out:=x.out++⟨#[32]⟩,fresh:=false } rfl (.inr (.inr ⟨rfl,rfl,rfl,rfl⟩)) HX2.out.p.iv));generalize w2.setCell ⟨W,4,none⟩ (.bool false)=w3 at HX3 ⊢;clear c4 z4;go_wp2_with fail;refine (wstring_x W B _ s w3 HX3.out.p HB2.out).mono ?_;rintro e w4 ⟨rfl,hx⟩;have HX4:=zz (HX3.out.trans hx);clear hx;go_wp2_with fail;go_returns;exact ⟨rfl,by rw [← HEQ.out]; exact HX4.out⟩
theorem close_any (W B:Nat) (x:Sy.Wr) (w:World) (h:WE w W B x) (hs:(Sy.closeW x).out.size≤BIG):Calls Tryz.prog 77 #[.pointer (some ⟨W,0,none⟩)] w fun e w'=>e=.returned (.tuple #[])∧WX w w' W B (Sy.closeW x):=by
 have HB:Hid (x.out.size+1≤BIG):=zz (by rw [Sy.close_size] at hs; exact hs);have HH:=zz h;have HIV:=zz (Sy.close_iv h.iv);obtain ⟨d,hd⟩:∃ d,x.depth=d:=⟨_,rfl⟩;have hb1:-9000000000000000000≤d - 1:=by have:=h.iv; unfold Sy.Iv at this; unfold BIG at HB; have:=HB.out; omega
 have hb2:d - 1≤9000000000000000000:=by have:=h.iv; unfold Sy.Iv at this; have:=HB.out; unfold BIG at this; omega
 have hwr:wrap64 (d - 1)=d - 1:=by unfold wrap64; omega
 have HD:=zz hd;clear h hs hd;go_enter Tryz.func77,Tryz.ntmps77;go_wp2_with fail;refine (wbyte_x W B x 41 41 rfl w HH.out HB.out).mono ?_;rintro e w2 ⟨rfl,hx⟩;have HX2:=zz hx;clear hx;have c4:w2.cell? ⟨W,4,none⟩=some (.bool x.fresh):=HX2.out.p.cc 4 _ (.inr (.inr ⟨rfl,rfl⟩));have z4:w2.frozen? ⟨W,4,none⟩=false:=HX2.out.p.ff 4;go_upto_region 2 with fail
 have HX3:=zz (HX2.out.trans (HX2.out.p.set 4 (.bool false) { x with out:=x.out++⟨#[41]⟩,fresh:=false } rfl (.inr (.inr ⟨rfl,rfl,rfl,rfl⟩)) HX2.out.p.iv));generalize w2.setCell ⟨W,4,none⟩ (.bool false)=w3 at HX3 ⊢;clear c4 z4;have c2:w3.cell? ⟨W,2,none⟩=some (.int .i64 d):=HX3.out.p.cc 2 _ (.inl ⟨rfl,by rw [← HD.out]⟩);have z2:w3.frozen? ⟨W,2,none⟩=false:=HX3.out.p.ff 2;have HX4:=zz (HX3.out.trans (HX3.out.p.set 2 (.int .i64 (d - 1)) (Sy.closeW x) rfl (.inl ⟨rfl,by rw [← HD.out]; rfl,rfl,rfl⟩) HIV.out));go_wp2_with fail;go_returns;exact ⟨rfl,HX4.out⟩
structure Pts (w:World) (W:Nat) (v:Value) (ps:List ByteArray):Prop where
 len:ps.length≤1000
 ex:ps=[]∧v=.slice none 0 0∨∃ g,v=.slice (some ⟨g,0,none⟩) ps.length ps.length∧w.heap[g]?=some (.cells (ps.map Value.string).toArray 9 (0,0))∧g≠W
theorem Pts.wx {w w':World} {W B:Nat} {x:Sy.Wr} {v:Value} {ps:List ByteArray} (h:Pts w W v ps) (hk:WX w w' W B x):Pts w' W v ps :=
 ⟨h.len,h.ex.imp id (fun ⟨g,h1,h2,h3⟩=>⟨g,h1,hk.wa.stay h2 h3 (by decide),h3⟩)⟩
theorem parts_app (l:List ByteArray) (s:ByteArray) (x:Sy.Wr):Sy.partsW (l++[s]) x=Sy.partW s (Sy.partsW l x):=by unfold Sy.partsW; rw [List.foldl_append]; rfl
theorem parts_take {l:List ByteArray} {i:Nat} {s:ByteArray} (h:l[i]?=some s) (x:Sy.Wr):Sy.partsW (l.take (i+1)) x=Sy.partW s (Sy.partsW (l.take i) x):=by
 rw [List.take_add_one,h]; exact parts_app _ _ _
theorem take_le (l:List ByteArray) (i:Nat) (x:Sy.Wr):(Sy.partsW (l.take i) x).out.size≤(Sy.partsW l x).out.size:=by
 have e:Sy.partsW l x=Sy.partsW (l.drop i) (Sy.partsW (l.take i) x):=by
  unfold Sy.partsW; rw [← List.foldl_append,List.take_append_drop]
 rw [e]; exact Sy.parts_le _ _
theorem open_any (W B:Nat) (x:Sy.Wr) (ps:List ByteArray) (v:Value) (w:World) (h:WE w W B x) (hp:Pts w W v ps) (hs:(Sy.openP ps x).out.size≤BIG):Calls Tryz.prog 75 #[.pointer (some ⟨W,0,none⟩),v] w fun e w'=>e=.returned (.tuple #[])∧WX w w' W B (Sy.openP ps x):=by
 have hoz:=Nat.le_trans (Sy.parts_le ps (Sy.openW x)) hs;have HIV:=zz (Sy.open_iv h.iv hoz);have HPA:=zz (part_any W B x ⟨#[40]⟩ w h hoz);have HH:=zz h;have HPT:=zz hp;have HSZ:=zz hs;obtain ⟨d,hd⟩:∃ d,x.depth=d:=⟨_,rfl⟩;obtain ⟨m,hm⟩:∃ m,x.most=m:=⟨_,rfl⟩;have hb1:-9000000000000000000≤d+1:=by have:=HIV.out.1; have e:(Sy.openW x).depth=x.depth+1:=rfl; unfold BIG at hoz; omega
 have hb2:d+1≤9000000000000000000:=by have:=HIV.out.2.1; have e:(Sy.openW x).depth=x.depth+1:=rfl; unfold BIG at hoz; omega
 have hwr:wrap64 (d+1)=d+1:=by unfold wrap64; omega
 have HD:=zz hd;have HM:=zz hm;obtain ⟨x1,hx1⟩:∃ y,Sy.partW ⟨#[40]⟩ x=y:=⟨_,rfl⟩;have HX1:=zz hx1;obtain ⟨x2,hx2⟩:∃ y,Sy.openW x=y:=⟨_,rfl⟩;have HX2:=zz hx2;have HOP:Hid (Sy.openP ps x=Sy.partsW ps x2):=zz (by rw [← hx2]; rfl);have HI1:=zz (Sy.part_iv h.iv ⟨#[40]⟩);rw [hx1] at HPA HI1;rw [hx2] at HIV;clear h hp hs hoz hd hm hx1 hx2;have hcase:=HPT.out.ex;rcases hcase with ⟨rfl,rfl⟩ | ⟨g,rfl,hg,hgW⟩
 · go_enter Tryz.func75,Tryz.ntmps75;go_wp2_with fail;refine HPA.out.mono ?_;rintro e w1 ⟨rfl,hx⟩;have HY1:=zz hx;clear hx;have c4:w1.cell? ⟨W,4,none⟩=some (.bool x1.fresh):=HY1.out.p.cc 4 _ (.inr (.inr ⟨rfl,rfl⟩));have z4:w1.frozen? ⟨W,4,none⟩=false:=HY1.out.p.ff 4;go_upto_region 2 with fail
   have HY2:=zz (HY1.out.trans (HY1.out.p.set 4 (.bool true) { x1 with fresh:=true } rfl (.inr (.inr ⟨rfl,rfl,rfl,rfl⟩)) HI1.out));generalize w1.setCell ⟨W,4,none⟩ (.bool true)=w2 at HY2 ⊢;clear c4 z4;have c2:w2.cell? ⟨W,2,none⟩=some (.int .i64 d):=HY2.out.p.cc 2 _ (.inl ⟨rfl,by rw [← HX1.out,← HD.out]; rfl⟩);have z2:w2.frozen? ⟨W,2,none⟩=false:=HY2.out.p.ff 2;go_upto_region 3 with fail
   have HY3:=zz (HY2.out.trans (HY2.out.p.set 2 (.int .i64 (d+1)) { x2 with most:=m } (by rw [← HX2.out,← HX1.out]; rfl) (.inl ⟨rfl,by rw [← HX2.out,← HD.out]; rfl,by rw [← HX1.out,← HM.out]; rfl,by rw [← HX2.out]; rfl⟩) (by
    obtain ⟨i1,i2,i3,i4⟩:=HIV.out;obtain ⟨j1,j2,j3,j4⟩:=HI1.out;exact ⟨i1,i2,by rw [← HM.out,show x.most=x1.most by rw [← HX1.out]; rfl]; exact j3,by rw [← HM.out,show x.most=x1.most by rw [← HX1.out]; rfl]; exact j4⟩)))
   generalize w2.setCell ⟨W,2,none⟩ (.int .i64 (d+1))=w3 at HY3 ⊢;clear c2 z2;have c3:w3.cell? ⟨W,3,none⟩=some (.int .i64 m):=HY3.out.p.cc 3 _ (.inr (.inl ⟨rfl,rfl⟩));have c2:w3.cell? ⟨W,2,none⟩=some (.int .i64 (d+1)):=HY3.out.p.cc 2 _ (.inl ⟨rfl,by rw [← HX2.out,← HD.out]; rfl⟩);have p3:∀ u:KW w3,u.W.cell? ⟨W,3,none⟩=some (.int .i64 m):=fun u=>u.cell c3
   have p2:∀ u:KW w3,u.W.cell? ⟨W,2,none⟩=some (.int .i64 (d+1)):=fun u=>u.cell c2
   have hne:Nonempty (KW w3):=⟨KW.of _⟩;clear c2 c3;refine Mix.wp_region_mix (fun W'=>∃ u:KW w3,W'=u.W) [12] (by kernel_rfl) ?_;have HV0:Hid (Keeps No w3 w3.drew):=zz ((Keeps.refl _ w3).drew);generalize w3.drew=v0 at HV0 ⊢;have HY4:=zz (HY3.out.no HV0.out);refine Mix.mix_seg 0 9 4 (by kernel_rfl) (by kernel_rfl) rfl rfl ⟨⟨v0,HV0.out⟩,rfl⟩ ?_;simp only [zp1,zp2,zp3,zp4]
   repeat (go_big_quiet_step (fail))
   refine wpQuiet_nil ?_;clear p2 p3;refine Mix.mix_one 9 3 (by kernel_rfl) rfl rfl ?_;simp only [zp1,zp2,zp3,zp4];go_wp2_with fail;refine ⟨.inr ⟨⟨v0,HV0.out⟩,rfl⟩,?_⟩;refine Mix.mix_one 10 2 (by kernel_rfl) rfl rfl ?_;simp only [zp1,zp2,zp3,zp4];go_wp2_with fail;refine ⟨.inr ⟨⟨v0,HV0.out⟩,rfl⟩,?_⟩;refine Mix.mix_one 11 1 (by kernel_rfl) rfl rfl ?_;simp only [zp1,zp2,zp3,zp4];go_wp2_with fail;refine ⟨.inr ⟨⟨v0,HV0.out⟩,rfl⟩,?_⟩;refine Mix.mix_one 12 0 (by kernel_rfl) rfl rfl ?_;simp only [zp1,zp2,zp3,zp4];have c3:v0.cell? ⟨W,3,none⟩=some (.int .i64 m):=HY4.out.p.cc 3 _ (.inr (.inl ⟨rfl,rfl⟩));have z3:v0.frozen? ⟨W,3,none⟩=false:=HY4.out.p.ff 3;go_wp2_with fail;have HX6:Hid (WX w (v0.setCell ⟨W,3,none⟩ (.int .i64 (max m (d+1)))) W B x2):=zz (HY4.out.trans (HY4.out.p.set 3 (.int .i64 (max m (d+1))) x2 rfl (.inr (.inl ⟨rfl,by rw [← HX2.out,← HD.out,← HM.out]; rfl,rfl,rfl⟩)) HIV.out));generalize v0.setCell ⟨W,3,none⟩ (.int .i64 (max m (d+1)))=w6 at HX6 ⊢;clear c3 z3 hne;refine ⟨.inl ⟨rfl,rfl⟩,?_⟩;refine Mix.mix_end (by kernel_rfl) ?_;go_wp2_with fail;go_loopg [32] 0 (fun gg u wr=>u=.int .i64 0∧gg=0∧Hid (WX w wr W B x2))
   case atStart=>exact ⟨rfl,rfl,HX6⟩
   case round =>
    obtain ⟨rfl,rfl,HXR⟩:=hrel;go_wp2_with fail;go_returns;exact ⟨rfl,by rw [HOP.out]; exact HXR.out⟩
 · have HG:=zz hg;have HGW:=zz hgW;have hpl:=HPT.out.len;obtain ⟨n,hn⟩:∃ n,ps.length=n:=⟨_,rfl⟩;have HN:=zz hn;rw [hn] at hpl ⊢;clear hg hgW hn;go_enter Tryz.func75,Tryz.ntmps75;go_wp2_with fail;refine HPA.out.mono ?_;rintro e w1 ⟨rfl,hx⟩;have HY1:=zz hx;clear hx;have c4:w1.cell? ⟨W,4,none⟩=some (.bool x1.fresh):=HY1.out.p.cc 4 _ (.inr (.inr ⟨rfl,rfl⟩));have z4:w1.frozen? ⟨W,4,none⟩=false:=HY1.out.p.ff 4;go_upto_region 2 with fail
   have HY2:=zz (HY1.out.trans (HY1.out.p.set 4 (.bool true) { x1 with fresh:=true } rfl (.inr (.inr ⟨rfl,rfl,rfl,rfl⟩)) HI1.out));generalize w1.setCell ⟨W,4,none⟩ (.bool true)=w2 at HY2 ⊢;clear c4 z4;have c2:w2.cell? ⟨W,2,none⟩=some (.int .i64 d):=HY2.out.p.cc 2 _ (.inl ⟨rfl,by rw [← HX1.out,← HD.out]; rfl⟩);have z2:w2.frozen? ⟨W,2,none⟩=false:=HY2.out.p.ff 2;go_upto_region 3 with fail
   have HY3:=zz (HY2.out.trans (HY2.out.p.set 2 (.int .i64 (d+1)) { x2 with most:=m } (by rw [← HX2.out,← HX1.out]; rfl) (.inl ⟨rfl,by rw [← HX2.out,← HD.out]; rfl,by rw [← HX1.out,← HM.out]; rfl,by rw [← HX2.out]; rfl⟩) (by
    obtain ⟨i1,i2,i3,i4⟩:=HIV.out;obtain ⟨j1,j2,j3,j4⟩:=HI1.out;exact ⟨i1,i2,by rw [← HM.out,show x.most=x1.most by rw [← HX1.out]; rfl]; exact j3,by rw [← HM.out,show x.most=x1.most by rw [← HX1.out]; rfl]; exact j4⟩)))
   generalize w2.setCell ⟨W,2,none⟩ (.int .i64 (d+1))=w3 at HY3 ⊢;clear c2 z2;have c3:w3.cell? ⟨W,3,none⟩=some (.int .i64 m):=HY3.out.p.cc 3 _ (.inr (.inl ⟨rfl,rfl⟩));have c2:w3.cell? ⟨W,2,none⟩=some (.int .i64 (d+1)):=HY3.out.p.cc 2 _ (.inl ⟨rfl,by rw [← HX2.out,← HD.out]; rfl⟩);have p3:∀ u:KW w3,u.W.cell? ⟨W,3,none⟩=some (.int .i64 m):=fun u=>u.cell c3
   have p2:∀ u:KW w3,u.W.cell? ⟨W,2,none⟩=some (.int .i64 (d+1)):=fun u=>u.cell c2
   have hne:Nonempty (KW w3):=⟨KW.of _⟩;clear c2 c3;refine Mix.wp_region_mix (fun W'=>∃ u:KW w3,W'=u.W) [12] (by kernel_rfl) ?_;have HV0:Hid (Keeps No w3 w3.drew):=zz ((Keeps.refl _ w3).drew);generalize w3.drew=v0 at HV0 ⊢;have HY4:=zz (HY3.out.no HV0.out);refine Mix.mix_seg 0 9 4 (by kernel_rfl) (by kernel_rfl) rfl rfl ⟨⟨v0,HV0.out⟩,rfl⟩ ?_;simp only [zp1,zp2,zp3,zp4]
   repeat (go_big_quiet_step (fail))
   refine wpQuiet_nil ?_;clear p2 p3;refine Mix.mix_one 9 3 (by kernel_rfl) rfl rfl ?_;simp only [zp1,zp2,zp3,zp4];go_wp2_with fail;refine ⟨.inr ⟨⟨v0,HV0.out⟩,rfl⟩,?_⟩;refine Mix.mix_one 10 2 (by kernel_rfl) rfl rfl ?_;simp only [zp1,zp2,zp3,zp4];go_wp2_with fail;refine ⟨.inr ⟨⟨v0,HV0.out⟩,rfl⟩,?_⟩;refine Mix.mix_one 11 1 (by kernel_rfl) rfl rfl ?_;simp only [zp1,zp2,zp3,zp4];go_wp2_with fail;refine ⟨.inr ⟨⟨v0,HV0.out⟩,rfl⟩,?_⟩;refine Mix.mix_one 12 0 (by kernel_rfl) rfl rfl ?_;simp only [zp1,zp2,zp3,zp4];have c3:v0.cell? ⟨W,3,none⟩=some (.int .i64 m):=HY4.out.p.cc 3 _ (.inr (.inl ⟨rfl,rfl⟩));have z3:v0.frozen? ⟨W,3,none⟩=false:=HY4.out.p.ff 3;go_wp2_with fail;have HX6:Hid (WX w (v0.setCell ⟨W,3,none⟩ (.int .i64 (max m (d+1)))) W B x2):=zz (HY4.out.trans (HY4.out.p.set 3 (.int .i64 (max m (d+1))) x2 rfl (.inr (.inl ⟨rfl,by rw [← HX2.out,← HD.out,← HM.out]; rfl,rfl,rfl⟩)) HIV.out));generalize v0.setCell ⟨W,3,none⟩ (.int .i64 (max m (d+1)))=w6 at HX6 ⊢;clear c3 z3 hne;refine ⟨.inl ⟨rfl,rfl⟩,?_⟩;refine Mix.mix_end (by kernel_rfl) ?_;go_wp2_with fail;go_loopg [32] n (fun gg u wr=>∃ i:Nat,u=.int .i64 (i:Int)∧i≤n∧gg=n - i∧Hid (WX w wr W B (Sy.partsW (ps.take i) x2)))
   case atStart=>exact ⟨0,rfl,by omega,by omega,HX6⟩
   case round =>
    obtain ⟨i,rfl,hi,rfl,HXR⟩:=hrel;by_cases hlt:i < n
    · obtain ⟨s,hs⟩:∃ s,ps[i]?=some s:=⟨_,List.getElem?_eq_getElem (by have:=HN.out; omega)⟩;have hlt1:(i:Int) < (n:Int):=by omega
      have hgr:wr.heap[g]?=some (.cells (ps.map Value.string).toArray 9 (0,0)):=HXR.out.wa.stay HG.out HGW.out (by decide);have cg:wr.cell? ⟨g,i,none⟩=some (.string s):=by
       rw [cell_of_row wr g i _ _ _ hgr,List.getElem?_toArray,List.getElem?_map,hs]; rfl
      have HPT2:Hid ((Sy.partW s (Sy.partsW (ps.take i) x2)).out.size≤BIG):=zz (by
       rw [← parts_take hs];exact Nat.le_trans (take_le _ _ _) (by rw [← HOP.out]; exact HSZ.out))
      have HEQ:Hid (Sy.partW s (Sy.partsW (ps.take i) x2)=Sy.partsW (ps.take (i+1)) x2):=zz (parts_take hs x2).symm;clear hgr hs;go_wp2_with fail;refine (part_any W B _ s wr HXR.out.p HPT2.out).mono ?_;rintro e w9 ⟨rfl,hx⟩;have HX9:Hid (WX w w9 W B (Sy.partsW (ps.take (i+1)) x2)):=zz (by rw [← HEQ.out]; exact HXR.out.trans hx);clear hx cg;go_wp2_with fail;go_roundg (n - (i+1))
      case rel=>exact ⟨i+1,by go_num,by omega,rfl,HX9⟩
      case measure=>omega
    · have hlt1:¬ (i:Int) < (n:Int):=by omega
      go_wp2_with fail;go_returns;refine ⟨rfl,?_⟩;have e:=HXR.out;rw [List.take_of_length_le (by have:=HN.out; omega)] at e;rw [HOP.out]; exact e
theorem head_any (k:Nat) (hk:k < 17) (w:World):Calls Tryz.prog 99 #[.int .i64 (k:Int)] w fun e w'=>e=.returned (.string (Sy.heads.getD k Sy.nt))∧Keeps No w w':=by
 have hc:k=0∨k=1∨k=2∨k=3∨k=4∨k=5∨k=6∨k=7∨k=8∨k=9∨k=10∨k=11∨k=12∨k=13∨k=14∨k=15∨k=16:=by omega
 rcases hc with rfl | rfl | rfl | rfl | rfl | rfl | rfl | rfl | rfl | rfl | rfl | rfl | rfl | rfl | rfl | rfl | rfl
 all_goals
  go_enter Tryz.func99,Tryz.ntmps99;go_wp2_with fail;go_returns;exact ⟨rfl,(Keeps.refl _ _).alloc _⟩
end Go.Proofs.YtjgkacggjhobmaaGreatDoor
namespace Go.Proofs.YtjgkacggjhobmaaGreatDoor.Sy
open Go.RowKit Lx
theorem part_mono (s:ByteArray) (x:Wr):x.out.size≤(partW s x).out.size:=Nat.le_trans (Nat.le_add_right _ _) (part_le s x)
theorem openP_mono (l:List ByteArray) (x:Wr):x.out.size≤(openP l x).out.size:=Nat.le_trans (Nat.le_succ _) (openP_le l x)
theorem close_mono (x:Wr):x.out.size≤(closeW x).out.size:=by rw [close_size]; omega
theorem head_mono (h:Option (List ByteArray)) (x:Wr):x.out.size≤(headW h x).out.size:=by
 cases h with
 | none=>exact Nat.le_refl _
 | some l=>exact openP_mono l x
theorem part_mem (l:List ByteArray):∀ (x:Wr) (s:ByteArray),s∈l→s.size≤(partsW l x).out.size:=by
 induction l with
 | nil=>intro x s h; cases h
 | cons a t ih =>
   intro x s h;show s.size≤(partsW t (partW a x)).out.size;rcases List.mem_cons.1 h with rfl | h
   · exact Nat.le_trans (Nat.le_trans (Nat.le_add_left _ _) (part_le s x)) (parts_le t _)
   · exact ih _ s h
theorem openP_mem (l:List ByteArray) (x:Wr) (s:ByteArray) (h:s∈l):s.size≤(openP l x).out.size:=part_mem l _ s h
mutual
theorem ex_mono:∀ (e:Ex) (x:Wr),x.out.size≤(exW e x).out.size
 | .mk kind op name ty num arr subs,x=>by
   unfold exW;simp only;refine Nat.le_trans ?_ (close_mono _);have h1:=Nat.le_trans (head_mono (exHead kind op name ty num) x) (exs_mono subs _);split
   · exact Nat.le_trans h1 (part_mono _ _)
   · exact h1
theorem exs_mono:∀ (l:List Ex) (x:Wr),x.out.size≤(exsW l x).out.size
 | [],x=>by unfold exsW; exact Nat.le_refl _
 | e::t,x=>by unfold exsW; exact Nat.le_trans (ex_mono e x) (exs_mono t _)
end
theorem exs_fold:∀ (l:List Ex) (x:Wr),exsW l x=l.foldl (fun x e=>exW e x) x
 | [],x=>by unfold exsW; rfl
 | e::t,x=>by unfold exsW; rw [exs_fold t]; rfl
theorem exs_take {l:List Ex} {i:Nat} {e:Ex} (h:l[i]?=some e) (x:Wr):exsW (l.take (i+1)) x=exW e (exsW (l.take i) x):=by
 rw [exs_fold,exs_fold,List.take_add_one,h,List.foldl_append]; rfl
theorem exs_le (l:List Ex) (i:Nat) (x:Wr):(exsW (l.take i) x).out.size≤(exsW l x).out.size:=by
 have e:exsW l x=exsW (l.drop i) (exsW (l.take i) x):=by
  rw [exs_fold,exs_fold (l.drop i),exs_fold (l.take i),← List.foldl_append,List.take_append_drop]
 rw [e]; exact exs_mono _ _
theorem opt_mono (e:Option Ex) (x:Wr):x.out.size≤(optW e x).out.size:=by
 cases e with
 | none=>exact part_mono _ _
 | some e=>exact ex_mono e x
mutual
theorem sm_mono:∀ (s:Sm) (x:Wr),x.out.size≤(smW s x).out.size
 | .mk kind v name minus num e0 e1 e2 body,x=>by
   unfold smW;simp only;refine Nat.le_trans ?_ (close_mono _);refine Nat.le_trans (openP_mono [heads.getD kind.toNat nt] x) ?_;have hb:=fun y=>sms_mono body y
   have h1:=fun y=>opt_mono e0 y
   have h2:=fun y=>opt_mono e1 y
   have h3:=fun y=>opt_mono e2 y
   repeat' split
   all_goals first
    | exact Nat.le_refl _
    | exact hb _
    | exact part_mono _ _
    | exact h1 _
    | exact Nat.le_trans (h1 _) (hb _)
    | exact Nat.le_trans (hb _) (h1 _)
    | exact Nat.le_trans (part_mono _ _) (hb _)
    | exact Nat.le_trans (Nat.le_trans (h1 _) (hb _)) (part_mono _ _)
    | exact Nat.le_trans (Nat.le_trans (Nat.le_trans (h1 _) (h2 _)) (h3 _)) (hb _)
    | exact Nat.le_trans (Nat.le_trans (Nat.le_trans (part_mono _ _) (part_mono _ _)) (part_mono _ _)) (h1 _)
theorem sms_mono:∀ (l:List Sm) (x:Wr),x.out.size≤(smsW l x).out.size
 | [],x=>by unfold smsW; exact Nat.le_refl _
 | e::t,x=>by unfold smsW; exact Nat.le_trans (sm_mono e x) (sms_mono t _)
end
theorem sms_fold:∀ (l:List Sm) (x:Wr),smsW l x=l.foldl (fun x e=>smW e x) x
 | [],x=>by unfold smsW; rfl
 | e::t,x=>by unfold smsW; rw [sms_fold t]; rfl
theorem sms_take {l:List Sm} {i:Nat} {e:Sm} (h:l[i]?=some e) (x:Wr):smsW (l.take (i+1)) x=smW e (smsW (l.take i) x):=by
 rw [sms_fold,sms_fold,List.take_add_one,h,List.foldl_append]; rfl
theorem sms_le (l:List Sm) (i:Nat) (x:Wr):(smsW (l.take i) x).out.size≤(smsW l x).out.size:=by
 have e:smsW l x=smsW (l.drop i) (smsW (l.take i) x):=by
  rw [sms_fold,sms_fold (l.drop i),sms_fold (l.take i),← List.foldl_append,List.take_append_drop]
 rw [e]; exact sms_mono _ _
def okN (stars num:Int):Bool:=decide (0≤stars∧stars≤1000000∧0≤num∧num≤18446744073709551615)
mutual
def okE:Ex→Bool
 | .mk kind op name ty num arr subs=>decide (1≤kind∧kind≤14)&&(okN ty.stars num&&okEs subs)
def okEs:List Ex→Bool
 | []=>true
 | e::t=>okE e&&okEs t
end
def okO:Option Ex→Bool
 | none=>true
 | some e=>okE e
mutual
def okS:Sm→Bool
 | .mk kind v name minus num e0 e1 e2 body=>decide (1≤kind∧kind≤16)&&(okN v.ty.stars v.num&&(okN 0 num&&(okO e0&&(okO e1&&(okO e2&&okSs body)))))
def okSs:List Sm→Bool
 | []=>true
 | e::t=>okS e&&okSs t
end
def okI (i:It):Bool :=
 decide (1≤i.kind∧i.kind≤5)&&(decide (i.v.ty.base.size≤1000000)&&(okN i.v.ty.stars i.v.num&&(i.vars.all (fun v=>okN v.ty.stars v.num)&&(i.types.all (fun t=>okN t.stars 0)&&(okO i.init&&(okEs i.list&&(match i.body with | some b=>okS b | none=>decide (i.kind≠4))))))))
theorem okEs_get:∀ {l:List Ex} {i:Nat} {e:Ex},okEs l=true→l[i]?=some e→okE e=true
 | [],i,e,h,hi=>by cases hi
 | a::t,0,e,h,hi=>by
   unfold okEs at h;rw [Bool.and_eq_true] at h;injection hi with hi; subst hi; exact h.1
 | a::t,i+1,e,h,hi=>by
   unfold okEs at h;rw [Bool.and_eq_true] at h;exact okEs_get h.2 hi
theorem okSs_get:∀ {l:List Sm} {i:Nat} {e:Sm},okSs l=true→l[i]?=some e→okS e=true
 | [],i,e,h,hi=>by cases hi
 | a::t,0,e,h,hi=>by
   unfold okSs at h;rw [Bool.and_eq_true] at h;injection hi with hi; subst hi; exact h.1
 | a::t,i+1,e,h,hi=>by
   unfold okSs at h;rw [Bool.and_eq_true] at h;exact okSs_get h.2 hi
theorem openP_depth (l:List ByteArray) (x:Wr):(openP l x).depth=x.depth+1:=by
 have h:∀ (l:List ByteArray) (y:Wr),(partsW l y).depth=y.depth:=by
  intro l
  induction l with
  | nil=>intro y; rfl
  | cons a t ih=>intro y; show (partsW t (partW a y)).depth=_; rw [ih]; rfl
 unfold openP; rw [h]; rfl
theorem head_some {kind:Int} (h:1≤kind∧kind≤14) (op name:ByteArray) (ty:Ty) (num:Int):∃ l,exHead kind op name ty num=some l:=by
 have hc:kind=1∨kind=2∨kind=3∨kind=4∨kind=5∨kind=6∨kind=7∨kind=8∨kind=9∨kind=10∨kind=11∨kind=12∨kind=13∨kind=14:=by omega
 rcases hc with rfl | rfl | rfl | rfl | rfl | rfl | rfl | rfl | rfl | rfl | rfl | rfl | rfl | rfl <;> exact ⟨_,rfl⟩
mutual
theorem ex_depth:∀ (e:Ex) (x:Wr),okE e=true→(exW e x).depth=x.depth
 | .mk kind op name ty num arr subs,x,h=>by
   unfold okE at h;rw [Bool.and_eq_true,Bool.and_eq_true,decide_eq_true_eq] at h;obtain ⟨l,hl⟩:=head_some h.1 op name ty num;unfold exW;simp only [hl];have h1:=exs_depth subs (openP l x) h.2.2;rw [openP_depth] at h1;show (if kind=10∨kind=11 then partW name (exsW subs (openP l x)) else exsW subs (openP l x)).depth - 1=_;split
   · show (exsW subs (openP l x)).depth - 1=_; omega
   · omega
theorem exs_depth:∀ (l:List Ex) (x:Wr),okEs l=true→(exsW l x).depth=x.depth
 | [],x,h=>by unfold exsW; rfl
 | e::t,x,h=>by
   unfold okEs at h;rw [Bool.and_eq_true] at h;unfold exsW;rw [exs_depth t _ h.2,ex_depth e x h.1]
end
theorem opt_depth (e:Option Ex) (x:Wr) (h:okO e=true):(optW e x).depth=x.depth:=by
 cases e with
 | none=>rfl
 | some e=>exact ex_depth e x h
theorem part_depth (s:ByteArray) (x:Wr):(partW s x).depth=x.depth:=rfl
mutual
theorem sm_depth:∀ (s:Sm) (x:Wr),okS s=true→(smW s x).depth=x.depth
 | .mk kind v name minus num e0 e1 e2 body,x,h=>by
   unfold okS at h;simp only [Bool.and_eq_true] at h;obtain ⟨_,_,_,g0,g1,g2,gb⟩:=h;have h0:=openP_depth [heads.getD kind.toNat nt] x;have hb:=fun y=>sms_depth body y gb
   have h1:=fun y=>opt_depth e0 y g0
   have h2:=fun y=>opt_depth e1 y g1
   have h3:=fun y=>opt_depth e2 y g2
   have key:∀ y:Wr,y.depth=(openP [heads.getD kind.toNat nt] x).depth→(closeW y).depth=x.depth:=fun y hy=>by
    show y.depth - 1=_; omega
   unfold smW;simp only;refine key _ ?_
   repeat' split
   all_goals simp only [hb,h1,h2,h3,part_depth]
theorem sms_depth:∀ (l:List Sm) (x:Wr),okSs l=true→(smsW l x).depth=x.depth
 | [],x,h=>by unfold smsW; rfl
 | e::t,x,h=>by
   unfold okSs at h;rw [Bool.and_eq_true] at h;unfold smsW;rw [sms_depth t _ h.2,sm_depth e x h.1]
end
end Go.Proofs.YtjgkacggjhobmaaGreatDoor.Sy
namespace Go.Proofs.YtjgkacggjhobmaaGreatDoor
open Go.RowKit Lx
def Agr (B:Nat) (w0 w:World):Prop:=w0.heap.size≤w.heap.size∧∀ q,q < w0.heap.size→q < B→w.heap[q]?=w0.heap[q]?
theorem Agr.refl (B:Nat) (w:World):Agr B w w:=⟨Nat.le_refl _,fun _ _ _=>rfl⟩
theorem Agr.wx {B W:Nat} {w0 w w':World} {x:Sy.Wr} (h:Agr B w0 w) (k:WX w w' W B x):Agr B w0 w' :=
 ⟨Nat.le_trans h.1 k.k.size,fun q hq hb=>(k.k.block q (Nat.lt_of_lt_of_le hq h.1) (fun e=>by
  rcases e with e | e
  · have:=k.p.bw.lo; omega
  · have:=e.1; omega)).trans (h.2 q hq hb)⟩
theorem Agr.no {B:Nat} {w0 w w':World} (h:Agr B w0 w) (k:Keeps No w w'):Agr B w0 w' :=
 ⟨Nat.le_trans h.1 k.size,fun q hq hb=>(k.block q (Nat.lt_of_lt_of_le hq h.1) (fun e=>e)).trans (h.2 q hq hb)⟩
theorem Agr.row {B:Nat} {w0 w:World} {g:Nat} {o:Obj} (h:Agr B w0 w) (hr:w0.heap[g]?=some o) (hb:g < B):w.heap[g]?=some o:=(h.2 g (Array.getElem?_eq_some_iff.1 hr).1 hb).trans hr
theorem Agr.own {B:Nat} {w0 w:World} {e:TypeId} {z n:Nat} {v:Value} {xs:List Value} (h:Agr B w0 w) (hr:RwD w0 (fun q=>q < B) e z v n xs):w.ownsRow 0 e z v n xs :=
 own_kept hr.own (fun q hq=>h.2 q (own_ltb hr.own hq) (hr.d q hq))
def WrPost (w:World) (W B:Nat) (y:Sy.Wr) (e:Ending) (w':World):Prop:=e=.returned (.tuple #[])∧WX w w' W B y
def Told (F:FuncId) (W B:Nat) (w0:World) (p:Option Addr) (f:Sy.Wr→Sy.Wr):Prop :=
 ∀ (w:World) (x:Sy.Wr),Agr B w0 w→WE w W B x→(f x).out.size≤BIG→Calls Tryz.prog F #[.pointer (some ⟨W,0,none⟩),.pointer p] w (WrPost w W B (f x))
theorem exprs_any (W B:Nat) (w0:World) (sa:Option Addr) (sc:Nat) (av:List (Option Addr)) (es:List Sy.Ex) (hr:RwD w0 (fun q=>q < B) 94 1 (.slice sa av.length sc) av.length (ptrs av)) (hl:av.length=es.length)
    (hc:∀ (i:Nat) (a:Option Addr) (e:Sy.Ex),av[i]?=some a→es[i]?=some e→Told 101 W B w0 a (Sy.exW e)) (w:World) (x:Sy.Wr) (ha:Agr B w0 w) (h:WE w W B x) (hs:(Sy.exsW es x).out.size≤BIG) :
    Calls Tryz.prog 102 #[.pointer (some ⟨W,0,none⟩),.slice sa av.length sc] w (WrPost w W B (Sy.exsW es x)):=by
 have HR:=zz hr;have HC:=zz hc;have HA:=zz ha;have HH:=zz h;have HSZ:=zz hs;have HL:=zz hl;obtain ⟨n,hn⟩:∃ n,av.length=n:=⟨_,rfl⟩;have HN:=zz hn;obtain ⟨_,_,_,hsa⟩:=own_form hr.own;rw [hn] at HR HL ⊢;have hnb:n≤9223372036854775807:=by
  have:=hr.own.1;rcases hr.own.2 with ⟨_,h2⟩ | ⟨g,cap,cur,h1,h2,h3,h4,h5,_⟩
  · omega
  · unfold maxLen at h5; omega
 clear hr hc ha h hs hl hn hsa;go_enter Tryz.func102,Tryz.ntmps102;go_wp2_with fail;go_loopg [8] n (fun gg u wr=>∃ i:Nat,u=.int .i64 (i:Int)∧i≤n∧gg=n - i∧Hid (WX w wr W B (Sy.exsW (es.take i) x)))
 case atStart=>exact ⟨0,rfl,by omega,by omega,zz (by rw [show es.take 0=[] from rfl]; unfold Sy.exsW; exact WX.refl HH.out)⟩
 case round =>
  obtain ⟨i,rfl,hi,rfl,HXR⟩:=hrel;by_cases hlt:i < n
  · obtain ⟨a,hav⟩:∃ a,av[i]?=some a:=⟨_,List.getElem?_eq_getElem (by have:=HN.out; omega)⟩;obtain ⟨e1,hes⟩:∃ e,es[i]?=some e:=⟨_,List.getElem?_eq_getElem (by have:=HL.out; omega)⟩;have hlt1:(i:Int) < (n:Int):=by omega
    have hag:=HA.out.wx HXR.out;have how:=hag.own HR.out;obtain ⟨g,hg⟩:∃ g,sa=some ⟨g,0,none⟩:=by
     obtain ⟨aa,ca,e2,h2⟩:=own_form how;obtain ⟨g,hg⟩:=h2 (by omega);injection e2 with e2;exact ⟨g,e2.trans hg⟩
    subst hg;have cg:wr.cell? ⟨g,i,none⟩=some (.pointer a):=by
     have:=how.cells (g:=g) rfl i (.pointer a) (by unfold ptrs; rw [List.getElem?_map,hav]; rfl);rw [Lib.add_plain,Nat.zero_add] at this; exact this
    have HEQ:Hid (Sy.exW e1 (Sy.exsW (es.take i) x)=Sy.exsW (es.take (i+1)) x):=zz (Sy.exs_take hes x).symm;have HCC:=zz (HC.out i a e1 hav hes wr (Sy.exsW (es.take i) x) hag HXR.out.p (by rw [HEQ.out]; exact Nat.le_trans (Sy.exs_le _ _ _) HSZ.out));clear hav hes hag how;go_wp2_with fail;refine HCC.out.mono ?_;rintro e w9 ⟨rfl,hx⟩;have HX9:Hid (WX w w9 W B (Sy.exsW (es.take (i+1)) x)):=zz (by rw [← HEQ.out]; exact HXR.out.trans hx);clear hx cg;go_wp2_with fail;go_roundg (n - (i+1))
    case rel=>exact ⟨i+1,by go_num,by omega,rfl,HX9⟩
    case measure=>omega
  · have hlt1:¬ (i:Int) < (n:Int):=by omega
    go_wp2_with fail;go_returns;refine ⟨rfl,?_⟩;have e:=HXR.out;rw [List.take_of_length_le (by have:=HL.out; omega)] at e;exact e
theorem stmts_any (W B:Nat) (w0:World) (sa:Option Addr) (sc:Nat) (av:List (Option Addr)) (es:List Sy.Sm) (hr:RwD w0 (fun q=>q < B) 93 1 (.slice sa av.length sc) av.length (ptrs av)) (hl:av.length=es.length)
    (hc:∀ (i:Nat) (a:Option Addr) (e:Sy.Sm),av[i]?=some a→es[i]?=some e→Told 80 W B w0 a (Sy.smW e)) (w:World) (x:Sy.Wr) (ha:Agr B w0 w) (h:WE w W B x) (hs:(Sy.smsW es x).out.size≤BIG) :
    Calls Tryz.prog 100 #[.pointer (some ⟨W,0,none⟩),.slice sa av.length sc] w (WrPost w W B (Sy.smsW es x)):=by
 have HR:=zz hr;have HC:=zz hc;have HA:=zz ha;have HH:=zz h;have HSZ:=zz hs;have HL:=zz hl;obtain ⟨n,hn⟩:∃ n,av.length=n:=⟨_,rfl⟩;have HN:=zz hn;rw [hn] at HR HL ⊢;have hnb:n≤9223372036854775807:=by
  have:=hr.own.1;rcases hr.own.2 with ⟨_,h2⟩ | ⟨g,cap,cur,h1,h2,h3,h4,h5,_⟩
  · omega
  · unfold maxLen at h5; omega
 clear hr hc ha h hs hl hn;go_enter Tryz.func100,Tryz.ntmps100;go_wp2_with fail;go_loopg [8] n (fun gg u wr=>∃ i:Nat,u=.int .i64 (i:Int)∧i≤n∧gg=n - i∧Hid (WX w wr W B (Sy.smsW (es.take i) x)))
 case atStart=>exact ⟨0,rfl,by omega,by omega,zz (by rw [show es.take 0=[] from rfl]; unfold Sy.smsW; exact WX.refl HH.out)⟩
 case round =>
  obtain ⟨i,rfl,hi,rfl,HXR⟩:=hrel;by_cases hlt:i < n
  · obtain ⟨a,hav⟩:∃ a,av[i]?=some a:=⟨_,List.getElem?_eq_getElem (by have:=HN.out; omega)⟩;obtain ⟨e1,hes⟩:∃ e,es[i]?=some e:=⟨_,List.getElem?_eq_getElem (by have:=HL.out; omega)⟩;have hlt1:(i:Int) < (n:Int):=by omega
    have hag:=HA.out.wx HXR.out;have how:=hag.own HR.out;obtain ⟨g,hg⟩:∃ g,sa=some ⟨g,0,none⟩:=by
     obtain ⟨aa,ca,e2,h2⟩:=own_form how;obtain ⟨g,hg⟩:=h2 (by omega);injection e2 with e2;exact ⟨g,e2.trans hg⟩
    subst hg;have cg:wr.cell? ⟨g,i,none⟩=some (.pointer a):=by
     have:=how.cells (g:=g) rfl i (.pointer a) (by unfold ptrs; rw [List.getElem?_map,hav]; rfl);rw [Lib.add_plain,Nat.zero_add] at this; exact this
    have HEQ:Hid (Sy.smW e1 (Sy.smsW (es.take i) x)=Sy.smsW (es.take (i+1)) x):=zz (Sy.sms_take hes x).symm;have HCC:=zz (HC.out i a e1 hav hes wr (Sy.smsW (es.take i) x) hag HXR.out.p (by rw [HEQ.out]; exact Nat.le_trans (Sy.sms_le _ _ _) HSZ.out));clear hav hes hag how;go_wp2_with fail;refine HCC.out.mono ?_;rintro e w9 ⟨rfl,hx⟩;have HX9:Hid (WX w w9 W B (Sy.smsW (es.take (i+1)) x)):=zz (by rw [← HEQ.out]; exact HXR.out.trans hx);clear hx cg;go_wp2_with fail;go_roundg (n - (i+1))
    case rel=>exact ⟨i+1,by go_num,by omega,rfl,HX9⟩
    case measure=>omega
  · have hlt1:¬ (i:Int) < (n:Int):=by omega
    go_wp2_with fail;go_returns;refine ⟨rfl,?_⟩;have e:=HXR.out;rw [List.take_of_length_le (by have:=HL.out; omega)] at e;exact e
theorem ex_k1 (W B:Nat) (x:Sy.Wr) (w0 w:World) (g:Nat) (op name base:ByteArray) (stars num:Int) (arr:Bool) (sa:Option Addr) (n sc:Nat) (subs:List Sy.Ex) (hW:WE w W B x) (hA:Agr B w0 w) (hg:g < B)
    (hr:w0.heap[g]?=some (.cells (exRow 1 op name ⟨base,stars⟩ num arr (.slice sa n sc)) 182 (0,0)))
    (hE:∀ (w2:World) (y:Sy.Wr),Agr B w0 w2→WE w2 W B y→(Sy.exsW subs y).out.size≤BIG→Calls Tryz.prog 102 #[.pointer (some ⟨W,0,none⟩),.slice sa n sc] w2 (WrPost w2 W B (Sy.exsW subs y)))
    (ho:Sy.okN stars num=true) (hb:(Sy.exW (.mk 1 op name ⟨base,stars⟩ num arr subs) x).out.size≤BIG) :
    Calls Tryz.prog 101 #[.pointer (some ⟨W,0,none⟩),.pointer (some ⟨g,0,none⟩)] w (WrPost w W B (Sy.exW (.mk 1 op name ⟨base,stars⟩ num arr subs) x)):=by
 obtain ⟨tt,htt⟩:∃ t,Sy.tyM ⟨base,stars⟩=t:=⟨_,rfl⟩;obtain ⟨dn,hdn⟩:∃ t,Sy.decM num=t:=⟨_,rfl⟩;have hM:Sy.exW (.mk 1 op name ⟨base,stars⟩ num arr subs) x=Sy.closeW (Sy.exsW subs (Sy.openP [⟨#[110,117,109]⟩,tt,dn] x)):=by
  unfold Sy.exW;simp only [Sy.exHead,htt,hdn];rfl
 rw [hM] at hb;have HM:=zz hM;have HB4:=zz hb;have hb2:=Nat.le_trans (Sy.close_mono (Sy.exsW subs (Sy.openP [⟨#[110,117,109]⟩,tt,dn] x))) hb;have HB2:=zz hb2;have hb1:=Nat.le_trans (Sy.exs_mono subs (Sy.openP [⟨#[110,117,109]⟩,tt,dn] x)) hb2;have HB1:=zz hb1;have HWE:=zz hW;have HAG:=zz hA;have HGB:=zz hg;have HRW:=zz hr;have HEX:=zz hE;unfold Sy.okN at ho;rw [decide_eq_true_eq] at ho;have hts:=Sy.openP_mem [⟨#[110,117,109]⟩,tt,dn] x tt (by simp);have HTX:=zz (fun W=>text_any base stars tt ho.1 (by omega) (by
  have e:base.size≤tt.size:=by rw [← htt]; show base.size≤(base++Sy.starL stars.toNat).size; rw [ByteArray.size_append]; omega
  unfold BIG at hb1; omega) htt W)
 have HDC:=zz (fun W hl=>decimal_any num dn ho.2.2.1 ho.2.2.2 hdn W hl);have hrw:=hA.row hr hg;have c0:w.cell? ⟨g,0,none⟩=some (.int .i64 1):=by rw [cell_of_row w g 0 _ _ _ hrw]; rfl
 have c1:w.cell? ⟨g,1,none⟩=some (.string op):=by rw [cell_of_row w g 1 _ _ _ hrw]; rfl
 have c2:w.cell? ⟨g,2,none⟩=some (.string name):=by rw [cell_of_row w g 2 _ _ _ hrw]; rfl
 have c3:w.cell? ⟨g,3,none⟩=some (.string base):=by rw [cell_of_row w g 3 _ _ _ hrw]; rfl
 have c4:w.cell? ⟨g,4,none⟩=some (.int .i64 stars):=by rw [cell_of_row w g 4 _ _ _ hrw]; rfl
 have c5:w.cell? ⟨g,5,none⟩=some (.int .u64 num):=by rw [cell_of_row w g 5 _ _ _ hrw]; rfl
 clear hM hb hb2 hb1 hW hA hg hr hE ho hrw hts htt hdn;go_enter Tryz.func101,Tryz.ntmps101;go_upto_region 4 with fail
 have hne:Nonempty (KS (U8 w B W) w):=⟨⟨w,Keeps.refl _ _⟩⟩;have hnu:¬ U8 w B W g:=fun e=>by
  have h1:=HGB.out;have h2:=HWE.out.bw.lo;rcases e with e | e
  · omega
  · have:=e.1; omega
 have p3:∀ u:KS (U8 w B W) w,u.W.cell? ⟨g,3,none⟩=some (.string base):=fun u=>u.cell c3 hnu
 have p4:∀ u:KS (U8 w B W) w,u.W.cell? ⟨g,4,none⟩=some (.int .i64 stars):=fun u=>u.cell c4 hnu
 have p5:∀ u:KS (U8 w B W) w,u.W.cell? ⟨g,5,none⟩=some (.int .u64 num):=fun u=>u.cell c5 hnu
 clear c0 c1 c2 c3 c4 c5 hnu;refine Mix.wp_region_mix (fun W'=>∃ u:KS (U8 w B W) w,W'=u.W) [] (by kernel_rfl) ?_;have HKv0:Hid (Keeps No w w.drew):=zz ((Keeps.refl _ w).drew);generalize w.drew=v0 at HKv0 ⊢;refine Mix.mix_seg 0 5 8 (by kernel_rfl) (by kernel_rfl) rfl rfl ⟨⟨v0,HKv0.out.mono (fun _ _ e=>e.elim)⟩,rfl⟩ ?_;simp only [zp1,zp2,zp3,zp4]
 repeat (go_big_quiet_step (fail))
 refine wpQuiet_nil ?_;refine Mix.mix_seg 6 4 4 (by kernel_rfl) (by kernel_rfl) rfl rfl ⟨⟨v0,HKv0.out.mono (fun _ _ e=>e.elim)⟩,rfl⟩ ?_;simp only [zp1,zp2,zp3,zp4]
 repeat (go_big_quiet_step (fail))
 refine wpQuiet_nil ?_;clear p3 p4 p5;refine Mix.mix_one 5 3 (by kernel_rfl) rfl rfl ?_;simp only [zp1,zp2,zp3,zp4];go_wp2_with fail;refine (HTX.out v0).mono ?_;rintro e' v1 ⟨rfl,hk⟩;have HKv1:Hid (Keeps No w v1):=zz (HKv0.out.trans hk (fun _ _ e=>e));clear hk;go_wp2_with fail;refine ⟨.inr ⟨⟨v1,HKv1.out.mono (fun _ _ e=>e.elim)⟩,rfl⟩,?_⟩;refine Mix.mix_one 10 2 (by kernel_rfl) rfl rfl ?_;simp only [zp1,zp2,zp3,zp4];go_wp2_with fail;refine (HDC.out v1 (HWE.out.lp.no HKv1.out)).mono ?_;rintro e' v2 ⟨rfl,hk⟩;have HKv2:Hid (Keeps No w v2):=zz (HKv1.out.trans hk (fun _ _ e=>e));clear hk;go_wp2_with fail;refine ⟨.inr ⟨⟨v2,HKv2.out.mono (fun _ _ e=>e.elim)⟩,rfl⟩,?_⟩;refine Mix.mix_one 11 1 (by kernel_rfl) rfl rfl ?_;simp only [zp1,zp2,zp3,zp4];go_wp2_with fail;have hk3:Keeps No v2 (v2.alloc (.cells #[.string ⟨#[110,117,109]⟩,.string tt,.string dn] 9)):=(Keeps.refl _ _).alloc _;have hp3:(v2.alloc (.cells #[.string ⟨#[110,117,109]⟩,.string tt,.string dn] 9)).heap[v2.heap.size]?=some (.cells #[.string ⟨#[110,117,109]⟩,.string tt,.string dn] 9 (0,0)):=heap_alloc_new _ _;have hne3:v2.heap.size≠W:=by have:=HWE.out.bw.lt; have:=HKv2.out.size; omega
 generalize v2.alloc (.cells #[.string ⟨#[110,117,109]⟩,.string tt,.string dn] 9)=v3 at hk3 hp3 ⊢;have HKv3:Hid (Keeps No w v3):=zz (HKv2.out.trans hk3 (fun _ _ e=>e));have HPT:Hid (Pts v3 W (.slice (some ⟨v2.heap.size,0,none⟩) 3 3) [⟨#[110,117,109]⟩,tt,dn]):=zz ⟨by simp,.inr ⟨v2.heap.size,rfl,hp3,hne3⟩⟩;clear hk3 hp3 hne3;refine ⟨.inr ⟨⟨v3,HKv3.out.mono (fun _ _ e=>e.elim)⟩,rfl⟩,?_⟩;refine Mix.mix_one 12 0 (by kernel_rfl) rfl rfl ?_;simp only [zp1,zp2,zp3,zp4];go_wp2_with fail;refine (open_any W B x [⟨#[110,117,109]⟩,tt,dn] _ v3 (HWE.out.no HKv3.out) HPT.out HB1.out).mono ?_;rintro e' w3 ⟨rfl,hx⟩;have HX3:Hid (WX w w3 W B (Sy.openP [⟨#[110,117,109]⟩,tt,dn] x)):=zz (WX.after HKv3.out hx);clear hx;go_wp2_with fail;refine ⟨.inr ⟨⟨w3,HX3.out.k⟩,rfl⟩,?_⟩;refine Mix.mix_end (by kernel_rfl) ?_;have HA3:=zz (HAG.out.wx HX3.out);have hr3:=HA3.out.row HRW.out HGB.out;have c7:w3.cell? ⟨g,7,none⟩=some (.slice sa n sc):=by rw [cell_of_row w3 g 7 _ _ _ hr3]; rfl
 clear hr3;go_wp2_with fail;refine (HEX.out w3 _ HA3.out HX3.out.p HB2.out).mono ?_;rintro e' w4 ⟨rfl,hx⟩;have HX4:=zz (HX3.out.trans hx);have hr4:=(HA3.out.wx hx).row HRW.out HGB.out;clear hx c7;have c0:w4.cell? ⟨g,0,none⟩=some (.int .i64 1):=by rw [cell_of_row w4 g 0 _ _ _ hr4]; rfl
 have c2:w4.cell? ⟨g,2,none⟩=some (.string name):=by rw [cell_of_row w4 g 2 _ _ _ hr4]; rfl
 clear hr4;go_wp2_with fail;refine (close_any W B _ w4 HX4.out.p HB4.out).mono ?_;rintro e' w6 ⟨rfl,hx⟩;have HX6:=zz (HX4.out.trans hx);clear hx;go_wp2_with fail;go_returns;exact ⟨rfl,by rw [HM.out]; exact HX6.out⟩
theorem ex_k14 (W B:Nat) (x:Sy.Wr) (w0 w:World) (g:Nat) (op name base:ByteArray) (stars num:Int) (arr:Bool) (sa:Option Addr) (n sc:Nat) (subs:List Sy.Ex) (hW:WE w W B x) (hA:Agr B w0 w) (hg:g < B)
    (hr:w0.heap[g]?=some (.cells (exRow 14 op name ⟨base,stars⟩ num arr (.slice sa n sc)) 182 (0,0)))
    (hE:∀ (w2:World) (y:Sy.Wr),Agr B w0 w2→WE w2 W B y→(Sy.exsW subs y).out.size≤BIG→Calls Tryz.prog 102 #[.pointer (some ⟨W,0,none⟩),.slice sa n sc] w2 (WrPost w2 W B (Sy.exsW subs y)))
    (ho:Sy.okN stars num=true) (hb:(Sy.exW (.mk 14 op name ⟨base,stars⟩ num arr subs) x).out.size≤BIG) :
    Calls Tryz.prog 101 #[.pointer (some ⟨W,0,none⟩),.pointer (some ⟨g,0,none⟩)] w (WrPost w W B (Sy.exW (.mk 14 op name ⟨base,stars⟩ num arr subs) x)):=by
 obtain ⟨tt,htt⟩:∃ t,Sy.tyM ⟨base,stars⟩=t:=⟨_,rfl⟩;obtain ⟨dn,hdn⟩:∃ t,Sy.decM num=t:=⟨_,rfl⟩;have hM:Sy.exW (.mk 14 op name ⟨base,stars⟩ num arr subs) x=Sy.closeW (Sy.exsW subs (Sy.openP [⟨#[115,105,122,101]⟩,tt,dn] x)):=by
  unfold Sy.exW;simp only [Sy.exHead,htt,hdn];rfl
 rw [hM] at hb;have HM:=zz hM;have HB4:=zz hb;have hb2:=Nat.le_trans (Sy.close_mono (Sy.exsW subs (Sy.openP [⟨#[115,105,122,101]⟩,tt,dn] x))) hb;have HB2:=zz hb2;have hb1:=Nat.le_trans (Sy.exs_mono subs (Sy.openP [⟨#[115,105,122,101]⟩,tt,dn] x)) hb2;have HB1:=zz hb1;have HWE:=zz hW;have HAG:=zz hA;have HGB:=zz hg;have HRW:=zz hr;have HEX:=zz hE;unfold Sy.okN at ho;rw [decide_eq_true_eq] at ho;have hts:=Sy.openP_mem [⟨#[115,105,122,101]⟩,tt,dn] x tt (by simp);have HTX:=zz (fun W=>text_any base stars tt ho.1 (by omega) (by
  have e:base.size≤tt.size:=by rw [← htt]; show base.size≤(base++Sy.starL stars.toNat).size; rw [ByteArray.size_append]; omega
  unfold BIG at hb1; omega) htt W)
 have HDC:=zz (fun W hl=>decimal_any num dn ho.2.2.1 ho.2.2.2 hdn W hl);have hrw:=hA.row hr hg;have c0:w.cell? ⟨g,0,none⟩=some (.int .i64 14):=by rw [cell_of_row w g 0 _ _ _ hrw]; rfl
 have c1:w.cell? ⟨g,1,none⟩=some (.string op):=by rw [cell_of_row w g 1 _ _ _ hrw]; rfl
 have c2:w.cell? ⟨g,2,none⟩=some (.string name):=by rw [cell_of_row w g 2 _ _ _ hrw]; rfl
 have c3:w.cell? ⟨g,3,none⟩=some (.string base):=by rw [cell_of_row w g 3 _ _ _ hrw]; rfl
 have c4:w.cell? ⟨g,4,none⟩=some (.int .i64 stars):=by rw [cell_of_row w g 4 _ _ _ hrw]; rfl
 have c5:w.cell? ⟨g,5,none⟩=some (.int .u64 num):=by rw [cell_of_row w g 5 _ _ _ hrw]; rfl
 clear hM hb hb2 hb1 hW hA hg hr hE ho hrw hts htt hdn;go_enter Tryz.func101,Tryz.ntmps101;go_upto_region 30 with fail
 have hne:Nonempty (KS (U8 w B W) w):=⟨⟨w,Keeps.refl _ _⟩⟩;have hnu:¬ U8 w B W g:=fun e=>by
  have h1:=HGB.out;have h2:=HWE.out.bw.lo;rcases e with e | e
  · omega
  · have:=e.1; omega
 have p3:∀ u:KS (U8 w B W) w,u.W.cell? ⟨g,3,none⟩=some (.string base):=fun u=>u.cell c3 hnu
 have p4:∀ u:KS (U8 w B W) w,u.W.cell? ⟨g,4,none⟩=some (.int .i64 stars):=fun u=>u.cell c4 hnu
 have p5:∀ u:KS (U8 w B W) w,u.W.cell? ⟨g,5,none⟩=some (.int .u64 num):=fun u=>u.cell c5 hnu
 clear c0 c1 c2 c3 c4 c5 hnu;refine Mix.wp_region_mix (fun W'=>∃ u:KS (U8 w B W) w,W'=u.W) [] (by kernel_rfl) ?_;have HKv0:Hid (Keeps No w w.drew):=zz ((Keeps.refl _ w).drew);generalize w.drew=v0 at HKv0 ⊢;refine Mix.mix_seg 0 5 8 (by kernel_rfl) (by kernel_rfl) rfl rfl ⟨⟨v0,HKv0.out.mono (fun _ _ e=>e.elim)⟩,rfl⟩ ?_;simp only [zp1,zp2,zp3,zp4]
 repeat (go_big_quiet_step (fail))
 refine wpQuiet_nil ?_;refine Mix.mix_seg 6 4 4 (by kernel_rfl) (by kernel_rfl) rfl rfl ⟨⟨v0,HKv0.out.mono (fun _ _ e=>e.elim)⟩,rfl⟩ ?_;simp only [zp1,zp2,zp3,zp4]
 repeat (go_big_quiet_step (fail))
 refine wpQuiet_nil ?_;clear p3 p4 p5;refine Mix.mix_one 5 3 (by kernel_rfl) rfl rfl ?_;simp only [zp1,zp2,zp3,zp4];go_wp2_with fail;refine (HTX.out v0).mono ?_;rintro e' v1 ⟨rfl,hk⟩;have HKv1:Hid (Keeps No w v1):=zz (HKv0.out.trans hk (fun _ _ e=>e));clear hk;go_wp2_with fail;refine ⟨.inr ⟨⟨v1,HKv1.out.mono (fun _ _ e=>e.elim)⟩,rfl⟩,?_⟩;refine Mix.mix_one 10 2 (by kernel_rfl) rfl rfl ?_;simp only [zp1,zp2,zp3,zp4];go_wp2_with fail;refine (HDC.out v1 (HWE.out.lp.no HKv1.out)).mono ?_;rintro e' v2 ⟨rfl,hk⟩;have HKv2:Hid (Keeps No w v2):=zz (HKv1.out.trans hk (fun _ _ e=>e));clear hk;go_wp2_with fail;refine ⟨.inr ⟨⟨v2,HKv2.out.mono (fun _ _ e=>e.elim)⟩,rfl⟩,?_⟩;refine Mix.mix_one 11 1 (by kernel_rfl) rfl rfl ?_;simp only [zp1,zp2,zp3,zp4];go_wp2_with fail;have hk3:Keeps No v2 (v2.alloc (.cells #[.string ⟨#[115,105,122,101]⟩,.string tt,.string dn] 9)):=(Keeps.refl _ _).alloc _;have hp3:(v2.alloc (.cells #[.string ⟨#[115,105,122,101]⟩,.string tt,.string dn] 9)).heap[v2.heap.size]?=some (.cells #[.string ⟨#[115,105,122,101]⟩,.string tt,.string dn] 9 (0,0)):=heap_alloc_new _ _;have hne3:v2.heap.size≠W:=by have:=HWE.out.bw.lt; have:=HKv2.out.size; omega
 generalize v2.alloc (.cells #[.string ⟨#[115,105,122,101]⟩,.string tt,.string dn] 9)=v3 at hk3 hp3 ⊢;have HKv3:Hid (Keeps No w v3):=zz (HKv2.out.trans hk3 (fun _ _ e=>e));have HPT:Hid (Pts v3 W (.slice (some ⟨v2.heap.size,0,none⟩) 3 3) [⟨#[115,105,122,101]⟩,tt,dn]):=zz ⟨by simp,.inr ⟨v2.heap.size,rfl,hp3,hne3⟩⟩;clear hk3 hp3 hne3;refine ⟨.inr ⟨⟨v3,HKv3.out.mono (fun _ _ e=>e.elim)⟩,rfl⟩,?_⟩;refine Mix.mix_one 12 0 (by kernel_rfl) rfl rfl ?_;simp only [zp1,zp2,zp3,zp4];go_wp2_with fail;refine (open_any W B x [⟨#[115,105,122,101]⟩,tt,dn] _ v3 (HWE.out.no HKv3.out) HPT.out HB1.out).mono ?_;rintro e' w3 ⟨rfl,hx⟩;have HX3:Hid (WX w w3 W B (Sy.openP [⟨#[115,105,122,101]⟩,tt,dn] x)):=zz (WX.after HKv3.out hx);clear hx;go_wp2_with fail;refine ⟨.inr ⟨⟨w3,HX3.out.k⟩,rfl⟩,?_⟩;refine Mix.mix_end (by kernel_rfl) ?_;have HA3:=zz (HAG.out.wx HX3.out);have hr3:=HA3.out.row HRW.out HGB.out;have c7:w3.cell? ⟨g,7,none⟩=some (.slice sa n sc):=by rw [cell_of_row w3 g 7 _ _ _ hr3]; rfl
 clear hr3;go_wp2_with fail;refine (HEX.out w3 _ HA3.out HX3.out.p HB2.out).mono ?_;rintro e' w4 ⟨rfl,hx⟩;have HX4:=zz (HX3.out.trans hx);have hr4:=(HA3.out.wx hx).row HRW.out HGB.out;clear hx c7;have c0:w4.cell? ⟨g,0,none⟩=some (.int .i64 14):=by rw [cell_of_row w4 g 0 _ _ _ hr4]; rfl
 have c2:w4.cell? ⟨g,2,none⟩=some (.string name):=by rw [cell_of_row w4 g 2 _ _ _ hr4]; rfl
 clear hr4;go_wp2_with fail;refine (close_any W B _ w4 HX4.out.p HB4.out).mono ?_;rintro e' w6 ⟨rfl,hx⟩;have HX6:=zz (HX4.out.trans hx);clear hx;go_wp2_with fail;go_returns;exact ⟨rfl,by rw [HM.out]; exact HX6.out⟩
theorem ex_k2 (W B:Nat) (x:Sy.Wr) (w0 w:World) (g:Nat) (op name base:ByteArray) (stars num:Int) (arr:Bool) (sa:Option Addr) (n sc:Nat) (subs:List Sy.Ex) (hW:WE w W B x) (hA:Agr B w0 w) (hg:g < B)
    (hr:w0.heap[g]?=some (.cells (exRow 2 op name ⟨base,stars⟩ num arr (.slice sa n sc)) 182 (0,0)))
    (hE:∀ (w2:World) (y:Sy.Wr),Agr B w0 w2→WE w2 W B y→(Sy.exsW subs y).out.size≤BIG→Calls Tryz.prog 102 #[.pointer (some ⟨W,0,none⟩),.slice sa n sc] w2 (WrPost w2 W B (Sy.exsW subs y)))
    (ho:Sy.okN stars num=true) (hb:(Sy.exW (.mk 2 op name ⟨base,stars⟩ num arr subs) x).out.size≤BIG) :
    Calls Tryz.prog 101 #[.pointer (some ⟨W,0,none⟩),.pointer (some ⟨g,0,none⟩)] w (WrPost w W B (Sy.exW (.mk 2 op name ⟨base,stars⟩ num arr subs) x)):=by
 have hM:Sy.exW (.mk 2 op name ⟨base,stars⟩ num arr subs) x=Sy.closeW (Sy.exsW subs (Sy.openP [⟨#[110,97,109,101]⟩,name] x)):=by
  unfold Sy.exW;simp only [Sy.exHead];rfl
 rw [hM] at hb;have HM:=zz hM;have HB4:=zz hb;have hb2:=Nat.le_trans (Sy.close_mono (Sy.exsW subs (Sy.openP [⟨#[110,97,109,101]⟩,name] x))) hb;have HB2:=zz hb2;have hb1:=Nat.le_trans (Sy.exs_mono subs (Sy.openP [⟨#[110,97,109,101]⟩,name] x)) hb2;have HB1:=zz hb1;have HWE:=zz hW;have HAG:=zz hA;have HGB:=zz hg;have HRW:=zz hr;have HEX:=zz hE;unfold Sy.okN at ho;rw [decide_eq_true_eq] at ho;have hrw:=hA.row hr hg;have c0:w.cell? ⟨g,0,none⟩=some (.int .i64 2):=by rw [cell_of_row w g 0 _ _ _ hrw]; rfl
 have c1:w.cell? ⟨g,1,none⟩=some (.string op):=by rw [cell_of_row w g 1 _ _ _ hrw]; rfl
 have c2:w.cell? ⟨g,2,none⟩=some (.string name):=by rw [cell_of_row w g 2 _ _ _ hrw]; rfl
 clear hM hb hb2 hb1 hW hA hg hr hE ho hrw;go_enter Tryz.func101,Tryz.ntmps101;have HKv2:Hid (Keeps No w w):=zz (Keeps.refl _ _);have hk3:Keeps No w (w.alloc (.cells #[.string ⟨#[110,97,109,101]⟩,.string name] 9)):=(Keeps.refl _ _).alloc _;have hp3:(w.alloc (.cells #[.string ⟨#[110,97,109,101]⟩,.string name] 9)).heap[w.heap.size]?=some (.cells #[.string ⟨#[110,97,109,101]⟩,.string name] 9 (0,0)):=heap_alloc_new _ _;have hne3:w.heap.size≠W:=by have:=HWE.out.bw.lt; have:=HKv2.out.size; omega
 have HKv3:Hid (Keeps No w (w.alloc (.cells #[.string ⟨#[110,97,109,101]⟩,.string name] 9))):=zz (HKv2.out.trans hk3 (fun _ _ e=>e));have HPT:Hid (Pts (w.alloc (.cells #[.string ⟨#[110,97,109,101]⟩,.string name] 9)) W (.slice (some ⟨w.heap.size,0,none⟩) 2 2) [⟨#[110,97,109,101]⟩,name]):=zz ⟨by simp,.inr ⟨w.heap.size,rfl,hp3,hne3⟩⟩;clear hk3 hp3 hne3;go_wp2_with fail;refine (open_any W B x [⟨#[110,97,109,101]⟩,name] _ _ (HWE.out.no HKv3.out) HPT.out HB1.out).mono ?_;rintro e' w3 ⟨rfl,hx⟩;have HX3:Hid (WX w w3 W B (Sy.openP [⟨#[110,97,109,101]⟩,name] x)):=zz (WX.after HKv3.out hx);clear hx c0 c1 c2;have HA3:=zz (HAG.out.wx HX3.out);have hr3:=HA3.out.row HRW.out HGB.out;have c7:w3.cell? ⟨g,7,none⟩=some (.slice sa n sc):=by rw [cell_of_row w3 g 7 _ _ _ hr3]; rfl
 clear hr3;go_wp2_with fail;refine (HEX.out w3 _ HA3.out HX3.out.p HB2.out).mono ?_;rintro e' w4 ⟨rfl,hx⟩;have HX4:=zz (HX3.out.trans hx);have hr4:=(HA3.out.wx hx).row HRW.out HGB.out;clear hx c7;have c0:w4.cell? ⟨g,0,none⟩=some (.int .i64 2):=by rw [cell_of_row w4 g 0 _ _ _ hr4]; rfl
 have c2:w4.cell? ⟨g,2,none⟩=some (.string name):=by rw [cell_of_row w4 g 2 _ _ _ hr4]; rfl
 clear hr4;go_wp2_with fail;refine (close_any W B _ w4 HX4.out.p HB4.out).mono ?_;rintro e' w6 ⟨rfl,hx⟩;have HX6:=zz (HX4.out.trans hx);clear hx;go_wp2_with fail;go_returns;exact ⟨rfl,by rw [HM.out]; exact HX6.out⟩
theorem ex_k3 (W B:Nat) (x:Sy.Wr) (w0 w:World) (g:Nat) (op name base:ByteArray) (stars num:Int) (arr:Bool) (sa:Option Addr) (n sc:Nat) (subs:List Sy.Ex) (hW:WE w W B x) (hA:Agr B w0 w) (hg:g < B)
    (hr:w0.heap[g]?=some (.cells (exRow 3 op name ⟨base,stars⟩ num arr (.slice sa n sc)) 182 (0,0)))
    (hE:∀ (w2:World) (y:Sy.Wr),Agr B w0 w2→WE w2 W B y→(Sy.exsW subs y).out.size≤BIG→Calls Tryz.prog 102 #[.pointer (some ⟨W,0,none⟩),.slice sa n sc] w2 (WrPost w2 W B (Sy.exsW subs y)))
    (ho:Sy.okN stars num=true) (hb:(Sy.exW (.mk 3 op name ⟨base,stars⟩ num arr subs) x).out.size≤BIG) :
    Calls Tryz.prog 101 #[.pointer (some ⟨W,0,none⟩),.pointer (some ⟨g,0,none⟩)] w (WrPost w W B (Sy.exW (.mk 3 op name ⟨base,stars⟩ num arr subs) x)):=by
 have hM:Sy.exW (.mk 3 op name ⟨base,stars⟩ num arr subs) x=Sy.closeW (Sy.exsW subs (Sy.openP [⟨#[117,110]⟩,op] x)):=by
  unfold Sy.exW;simp only [Sy.exHead];rfl
 rw [hM] at hb;have HM:=zz hM;have HB4:=zz hb;have hb2:=Nat.le_trans (Sy.close_mono (Sy.exsW subs (Sy.openP [⟨#[117,110]⟩,op] x))) hb;have HB2:=zz hb2;have hb1:=Nat.le_trans (Sy.exs_mono subs (Sy.openP [⟨#[117,110]⟩,op] x)) hb2;have HB1:=zz hb1;have HWE:=zz hW;have HAG:=zz hA;have HGB:=zz hg;have HRW:=zz hr;have HEX:=zz hE;unfold Sy.okN at ho;rw [decide_eq_true_eq] at ho;have hrw:=hA.row hr hg;have c0:w.cell? ⟨g,0,none⟩=some (.int .i64 3):=by rw [cell_of_row w g 0 _ _ _ hrw]; rfl
 have c1:w.cell? ⟨g,1,none⟩=some (.string op):=by rw [cell_of_row w g 1 _ _ _ hrw]; rfl
 have c2:w.cell? ⟨g,2,none⟩=some (.string name):=by rw [cell_of_row w g 2 _ _ _ hrw]; rfl
 clear hM hb hb2 hb1 hW hA hg hr hE ho hrw;go_enter Tryz.func101,Tryz.ntmps101;have HKv2:Hid (Keeps No w w):=zz (Keeps.refl _ _);have hk3:Keeps No w (w.alloc (.cells #[.string ⟨#[117,110]⟩,.string op] 9)):=(Keeps.refl _ _).alloc _;have hp3:(w.alloc (.cells #[.string ⟨#[117,110]⟩,.string op] 9)).heap[w.heap.size]?=some (.cells #[.string ⟨#[117,110]⟩,.string op] 9 (0,0)):=heap_alloc_new _ _;have hne3:w.heap.size≠W:=by have:=HWE.out.bw.lt; have:=HKv2.out.size; omega
 have HKv3:Hid (Keeps No w (w.alloc (.cells #[.string ⟨#[117,110]⟩,.string op] 9))):=zz (HKv2.out.trans hk3 (fun _ _ e=>e));have HPT:Hid (Pts (w.alloc (.cells #[.string ⟨#[117,110]⟩,.string op] 9)) W (.slice (some ⟨w.heap.size,0,none⟩) 2 2) [⟨#[117,110]⟩,op]):=zz ⟨by simp,.inr ⟨w.heap.size,rfl,hp3,hne3⟩⟩;clear hk3 hp3 hne3;go_wp2_with fail;refine (open_any W B x [⟨#[117,110]⟩,op] _ _ (HWE.out.no HKv3.out) HPT.out HB1.out).mono ?_;rintro e' w3 ⟨rfl,hx⟩;have HX3:Hid (WX w w3 W B (Sy.openP [⟨#[117,110]⟩,op] x)):=zz (WX.after HKv3.out hx);clear hx c0 c1 c2;have HA3:=zz (HAG.out.wx HX3.out);have hr3:=HA3.out.row HRW.out HGB.out;have c7:w3.cell? ⟨g,7,none⟩=some (.slice sa n sc):=by rw [cell_of_row w3 g 7 _ _ _ hr3]; rfl
 clear hr3;go_wp2_with fail;refine (HEX.out w3 _ HA3.out HX3.out.p HB2.out).mono ?_;rintro e' w4 ⟨rfl,hx⟩;have HX4:=zz (HX3.out.trans hx);have hr4:=(HA3.out.wx hx).row HRW.out HGB.out;clear hx c7;have c0:w4.cell? ⟨g,0,none⟩=some (.int .i64 3):=by rw [cell_of_row w4 g 0 _ _ _ hr4]; rfl
 have c2:w4.cell? ⟨g,2,none⟩=some (.string name):=by rw [cell_of_row w4 g 2 _ _ _ hr4]; rfl
 clear hr4;go_wp2_with fail;refine (close_any W B _ w4 HX4.out.p HB4.out).mono ?_;rintro e' w6 ⟨rfl,hx⟩;have HX6:=zz (HX4.out.trans hx);clear hx;go_wp2_with fail;go_returns;exact ⟨rfl,by rw [HM.out]; exact HX6.out⟩
theorem ex_k4 (W B:Nat) (x:Sy.Wr) (w0 w:World) (g:Nat) (op name base:ByteArray) (stars num:Int) (arr:Bool) (sa:Option Addr) (n sc:Nat) (subs:List Sy.Ex) (hW:WE w W B x) (hA:Agr B w0 w) (hg:g < B)
    (hr:w0.heap[g]?=some (.cells (exRow 4 op name ⟨base,stars⟩ num arr (.slice sa n sc)) 182 (0,0)))
    (hE:∀ (w2:World) (y:Sy.Wr),Agr B w0 w2→WE w2 W B y→(Sy.exsW subs y).out.size≤BIG→Calls Tryz.prog 102 #[.pointer (some ⟨W,0,none⟩),.slice sa n sc] w2 (WrPost w2 W B (Sy.exsW subs y)))
    (ho:Sy.okN stars num=true) (hb:(Sy.exW (.mk 4 op name ⟨base,stars⟩ num arr subs) x).out.size≤BIG) :
    Calls Tryz.prog 101 #[.pointer (some ⟨W,0,none⟩),.pointer (some ⟨g,0,none⟩)] w (WrPost w W B (Sy.exW (.mk 4 op name ⟨base,stars⟩ num arr subs) x)):=by
 have hM:Sy.exW (.mk 4 op name ⟨base,stars⟩ num arr subs) x=Sy.closeW (Sy.exsW subs (Sy.openP [⟨#[98,105,110]⟩,op] x)):=by
  unfold Sy.exW;simp only [Sy.exHead];rfl
 rw [hM] at hb;have HM:=zz hM;have HB4:=zz hb;have hb2:=Nat.le_trans (Sy.close_mono (Sy.exsW subs (Sy.openP [⟨#[98,105,110]⟩,op] x))) hb;have HB2:=zz hb2;have hb1:=Nat.le_trans (Sy.exs_mono subs (Sy.openP [⟨#[98,105,110]⟩,op] x)) hb2;have HB1:=zz hb1;have HWE:=zz hW;have HAG:=zz hA;have HGB:=zz hg;have HRW:=zz hr;have HEX:=zz hE;unfold Sy.okN at ho;rw [decide_eq_true_eq] at ho;have hrw:=hA.row hr hg;have c0:w.cell? ⟨g,0,none⟩=some (.int .i64 4):=by rw [cell_of_row w g 0 _ _ _ hrw]; rfl
 have c1:w.cell? ⟨g,1,none⟩=some (.string op):=by rw [cell_of_row w g 1 _ _ _ hrw]; rfl
 have c2:w.cell? ⟨g,2,none⟩=some (.string name):=by rw [cell_of_row w g 2 _ _ _ hrw]; rfl
 clear hM hb hb2 hb1 hW hA hg hr hE ho hrw;go_enter Tryz.func101,Tryz.ntmps101;have HKv2:Hid (Keeps No w w):=zz (Keeps.refl _ _);have hk3:Keeps No w (w.alloc (.cells #[.string ⟨#[98,105,110]⟩,.string op] 9)):=(Keeps.refl _ _).alloc _;have hp3:(w.alloc (.cells #[.string ⟨#[98,105,110]⟩,.string op] 9)).heap[w.heap.size]?=some (.cells #[.string ⟨#[98,105,110]⟩,.string op] 9 (0,0)):=heap_alloc_new _ _;have hne3:w.heap.size≠W:=by have:=HWE.out.bw.lt; have:=HKv2.out.size; omega
 have HKv3:Hid (Keeps No w (w.alloc (.cells #[.string ⟨#[98,105,110]⟩,.string op] 9))):=zz (HKv2.out.trans hk3 (fun _ _ e=>e));have HPT:Hid (Pts (w.alloc (.cells #[.string ⟨#[98,105,110]⟩,.string op] 9)) W (.slice (some ⟨w.heap.size,0,none⟩) 2 2) [⟨#[98,105,110]⟩,op]):=zz ⟨by simp,.inr ⟨w.heap.size,rfl,hp3,hne3⟩⟩;clear hk3 hp3 hne3;go_wp2_with fail;refine (open_any W B x [⟨#[98,105,110]⟩,op] _ _ (HWE.out.no HKv3.out) HPT.out HB1.out).mono ?_;rintro e' w3 ⟨rfl,hx⟩;have HX3:Hid (WX w w3 W B (Sy.openP [⟨#[98,105,110]⟩,op] x)):=zz (WX.after HKv3.out hx);clear hx c0 c1 c2;have HA3:=zz (HAG.out.wx HX3.out);have hr3:=HA3.out.row HRW.out HGB.out;have c7:w3.cell? ⟨g,7,none⟩=some (.slice sa n sc):=by rw [cell_of_row w3 g 7 _ _ _ hr3]; rfl
 clear hr3;go_wp2_with fail;refine (HEX.out w3 _ HA3.out HX3.out.p HB2.out).mono ?_;rintro e' w4 ⟨rfl,hx⟩;have HX4:=zz (HX3.out.trans hx);have hr4:=(HA3.out.wx hx).row HRW.out HGB.out;clear hx c7;have c0:w4.cell? ⟨g,0,none⟩=some (.int .i64 4):=by rw [cell_of_row w4 g 0 _ _ _ hr4]; rfl
 have c2:w4.cell? ⟨g,2,none⟩=some (.string name):=by rw [cell_of_row w4 g 2 _ _ _ hr4]; rfl
 clear hr4;go_wp2_with fail;refine (close_any W B _ w4 HX4.out.p HB4.out).mono ?_;rintro e' w6 ⟨rfl,hx⟩;have HX6:=zz (HX4.out.trans hx);clear hx;go_wp2_with fail;go_returns;exact ⟨rfl,by rw [HM.out]; exact HX6.out⟩
theorem ex_k8 (W B:Nat) (x:Sy.Wr) (w0 w:World) (g:Nat) (op name base:ByteArray) (stars num:Int) (arr:Bool) (sa:Option Addr) (n sc:Nat) (subs:List Sy.Ex) (hW:WE w W B x) (hA:Agr B w0 w) (hg:g < B)
    (hr:w0.heap[g]?=some (.cells (exRow 8 op name ⟨base,stars⟩ num arr (.slice sa n sc)) 182 (0,0)))
    (hE:∀ (w2:World) (y:Sy.Wr),Agr B w0 w2→WE w2 W B y→(Sy.exsW subs y).out.size≤BIG→Calls Tryz.prog 102 #[.pointer (some ⟨W,0,none⟩),.slice sa n sc] w2 (WrPost w2 W B (Sy.exsW subs y)))
    (ho:Sy.okN stars num=true) (hb:(Sy.exW (.mk 8 op name ⟨base,stars⟩ num arr subs) x).out.size≤BIG) :
    Calls Tryz.prog 101 #[.pointer (some ⟨W,0,none⟩),.pointer (some ⟨g,0,none⟩)] w (WrPost w W B (Sy.exW (.mk 8 op name ⟨base,stars⟩ num arr subs) x)):=by
 have hM:Sy.exW (.mk 8 op name ⟨base,stars⟩ num arr subs) x=Sy.closeW (Sy.exsW subs (Sy.openP [⟨#[115,101,116]⟩,op] x)):=by
  unfold Sy.exW;simp only [Sy.exHead];rfl
 rw [hM] at hb;have HM:=zz hM;have HB4:=zz hb;have hb2:=Nat.le_trans (Sy.close_mono (Sy.exsW subs (Sy.openP [⟨#[115,101,116]⟩,op] x))) hb;have HB2:=zz hb2;have hb1:=Nat.le_trans (Sy.exs_mono subs (Sy.openP [⟨#[115,101,116]⟩,op] x)) hb2;have HB1:=zz hb1;have HWE:=zz hW;have HAG:=zz hA;have HGB:=zz hg;have HRW:=zz hr;have HEX:=zz hE;unfold Sy.okN at ho;rw [decide_eq_true_eq] at ho;have hrw:=hA.row hr hg;have c0:w.cell? ⟨g,0,none⟩=some (.int .i64 8):=by rw [cell_of_row w g 0 _ _ _ hrw]; rfl
 have c1:w.cell? ⟨g,1,none⟩=some (.string op):=by rw [cell_of_row w g 1 _ _ _ hrw]; rfl
 have c2:w.cell? ⟨g,2,none⟩=some (.string name):=by rw [cell_of_row w g 2 _ _ _ hrw]; rfl
 clear hM hb hb2 hb1 hW hA hg hr hE ho hrw;go_enter Tryz.func101,Tryz.ntmps101;have HKv2:Hid (Keeps No w w):=zz (Keeps.refl _ _);have hk3:Keeps No w (w.alloc (.cells #[.string ⟨#[115,101,116]⟩,.string op] 9)):=(Keeps.refl _ _).alloc _;have hp3:(w.alloc (.cells #[.string ⟨#[115,101,116]⟩,.string op] 9)).heap[w.heap.size]?=some (.cells #[.string ⟨#[115,101,116]⟩,.string op] 9 (0,0)):=heap_alloc_new _ _;have hne3:w.heap.size≠W:=by have:=HWE.out.bw.lt; have:=HKv2.out.size; omega
 have HKv3:Hid (Keeps No w (w.alloc (.cells #[.string ⟨#[115,101,116]⟩,.string op] 9))):=zz (HKv2.out.trans hk3 (fun _ _ e=>e));have HPT:Hid (Pts (w.alloc (.cells #[.string ⟨#[115,101,116]⟩,.string op] 9)) W (.slice (some ⟨w.heap.size,0,none⟩) 2 2) [⟨#[115,101,116]⟩,op]):=zz ⟨by simp,.inr ⟨w.heap.size,rfl,hp3,hne3⟩⟩;clear hk3 hp3 hne3;go_wp2_with fail;refine (open_any W B x [⟨#[115,101,116]⟩,op] _ _ (HWE.out.no HKv3.out) HPT.out HB1.out).mono ?_;rintro e' w3 ⟨rfl,hx⟩;have HX3:Hid (WX w w3 W B (Sy.openP [⟨#[115,101,116]⟩,op] x)):=zz (WX.after HKv3.out hx);clear hx c0 c1 c2;have HA3:=zz (HAG.out.wx HX3.out);have hr3:=HA3.out.row HRW.out HGB.out;have c7:w3.cell? ⟨g,7,none⟩=some (.slice sa n sc):=by rw [cell_of_row w3 g 7 _ _ _ hr3]; rfl
 clear hr3;go_wp2_with fail;refine (HEX.out w3 _ HA3.out HX3.out.p HB2.out).mono ?_;rintro e' w4 ⟨rfl,hx⟩;have HX4:=zz (HX3.out.trans hx);have hr4:=(HA3.out.wx hx).row HRW.out HGB.out;clear hx c7;have c0:w4.cell? ⟨g,0,none⟩=some (.int .i64 8):=by rw [cell_of_row w4 g 0 _ _ _ hr4]; rfl
 have c2:w4.cell? ⟨g,2,none⟩=some (.string name):=by rw [cell_of_row w4 g 2 _ _ _ hr4]; rfl
 clear hr4;go_wp2_with fail;refine (close_any W B _ w4 HX4.out.p HB4.out).mono ?_;rintro e' w6 ⟨rfl,hx⟩;have HX6:=zz (HX4.out.trans hx);clear hx;go_wp2_with fail;go_returns;exact ⟨rfl,by rw [HM.out]; exact HX6.out⟩
theorem ex_k13 (W B:Nat) (x:Sy.Wr) (w0 w:World) (g:Nat) (op name base:ByteArray) (stars num:Int) (arr:Bool) (sa:Option Addr) (n sc:Nat) (subs:List Sy.Ex) (hW:WE w W B x) (hA:Agr B w0 w) (hg:g < B)
    (hr:w0.heap[g]?=some (.cells (exRow 13 op name ⟨base,stars⟩ num arr (.slice sa n sc)) 182 (0,0)))
    (hE:∀ (w2:World) (y:Sy.Wr),Agr B w0 w2→WE w2 W B y→(Sy.exsW subs y).out.size≤BIG→Calls Tryz.prog 102 #[.pointer (some ⟨W,0,none⟩),.slice sa n sc] w2 (WrPost w2 W B (Sy.exsW subs y)))
    (ho:Sy.okN stars num=true) (hb:(Sy.exW (.mk 13 op name ⟨base,stars⟩ num arr subs) x).out.size≤BIG) :
    Calls Tryz.prog 101 #[.pointer (some ⟨W,0,none⟩),.pointer (some ⟨g,0,none⟩)] w (WrPost w W B (Sy.exW (.mk 13 op name ⟨base,stars⟩ num arr subs) x)):=by
 obtain ⟨tt,htt⟩:∃ t,Sy.tyM ⟨base,stars⟩=t:=⟨_,rfl⟩;have hM:Sy.exW (.mk 13 op name ⟨base,stars⟩ num arr subs) x=Sy.closeW (Sy.exsW subs (Sy.openP [⟨#[99,97,115,116]⟩,tt] x)):=by
  unfold Sy.exW;simp only [Sy.exHead,htt];rfl
 rw [hM] at hb;have HM:=zz hM;have HB4:=zz hb;have hb2:=Nat.le_trans (Sy.close_mono (Sy.exsW subs (Sy.openP [⟨#[99,97,115,116]⟩,tt] x))) hb;have HB2:=zz hb2;have hb1:=Nat.le_trans (Sy.exs_mono subs (Sy.openP [⟨#[99,97,115,116]⟩,tt] x)) hb2;have HB1:=zz hb1;have HWE:=zz hW;have HAG:=zz hA;have HGB:=zz hg;have HRW:=zz hr;have HEX:=zz hE;unfold Sy.okN at ho;rw [decide_eq_true_eq] at ho;have hts:=Sy.openP_mem [⟨#[99,97,115,116]⟩,tt] x tt (by simp);have HTX:=zz (fun W=>text_any base stars tt ho.1 (by omega) (by
  have e:base.size≤tt.size:=by rw [← htt]; show base.size≤(base++Sy.starL stars.toNat).size; rw [ByteArray.size_append]; omega
  unfold BIG at hb1; omega) htt W)
 have hrw:=hA.row hr hg;have c0:w.cell? ⟨g,0,none⟩=some (.int .i64 13):=by rw [cell_of_row w g 0 _ _ _ hrw]; rfl
 have c1:w.cell? ⟨g,1,none⟩=some (.string op):=by rw [cell_of_row w g 1 _ _ _ hrw]; rfl
 have c2:w.cell? ⟨g,2,none⟩=some (.string name):=by rw [cell_of_row w g 2 _ _ _ hrw]; rfl
 have c3:w.cell? ⟨g,3,none⟩=some (.string base):=by rw [cell_of_row w g 3 _ _ _ hrw]; rfl
 have c4:w.cell? ⟨g,4,none⟩=some (.int .i64 stars):=by rw [cell_of_row w g 4 _ _ _ hrw]; rfl
 clear hM hb hb2 hb1 hW hA hg hr hE ho hrw hts htt;go_enter Tryz.func101,Tryz.ntmps101;go_wp2_with fail;refine (HTX.out w).mono ?_;rintro e' v2 ⟨rfl,hk⟩;have HKv2:=zz hk;clear hk;have hk3:Keeps No v2 (v2.alloc (.cells #[.string ⟨#[99,97,115,116]⟩,.string tt] 9)):=(Keeps.refl _ _).alloc _;have hp3:(v2.alloc (.cells #[.string ⟨#[99,97,115,116]⟩,.string tt] 9)).heap[v2.heap.size]?=some (.cells #[.string ⟨#[99,97,115,116]⟩,.string tt] 9 (0,0)):=heap_alloc_new _ _;have hne3:v2.heap.size≠W:=by have:=HWE.out.bw.lt; have:=HKv2.out.size; omega
 have HKv3:Hid (Keeps No w (v2.alloc (.cells #[.string ⟨#[99,97,115,116]⟩,.string tt] 9))):=zz (HKv2.out.trans hk3 (fun _ _ e=>e));have HPT:Hid (Pts (v2.alloc (.cells #[.string ⟨#[99,97,115,116]⟩,.string tt] 9)) W (.slice (some ⟨v2.heap.size,0,none⟩) 2 2) [⟨#[99,97,115,116]⟩,tt]):=zz ⟨by simp,.inr ⟨v2.heap.size,rfl,hp3,hne3⟩⟩;clear hk3 hp3 hne3;go_wp2_with fail;refine (open_any W B x [⟨#[99,97,115,116]⟩,tt] _ _ (HWE.out.no HKv3.out) HPT.out HB1.out).mono ?_;rintro e' w3 ⟨rfl,hx⟩;have HX3:Hid (WX w w3 W B (Sy.openP [⟨#[99,97,115,116]⟩,tt] x)):=zz (WX.after HKv3.out hx);clear hx c0 c1 c2 c3 c4;have HA3:=zz (HAG.out.wx HX3.out);have hr3:=HA3.out.row HRW.out HGB.out;have c7:w3.cell? ⟨g,7,none⟩=some (.slice sa n sc):=by rw [cell_of_row w3 g 7 _ _ _ hr3]; rfl
 clear hr3;go_wp2_with fail;refine (HEX.out w3 _ HA3.out HX3.out.p HB2.out).mono ?_;rintro e' w4 ⟨rfl,hx⟩;have HX4:=zz (HX3.out.trans hx);have hr4:=(HA3.out.wx hx).row HRW.out HGB.out;clear hx c7;have c0:w4.cell? ⟨g,0,none⟩=some (.int .i64 13):=by rw [cell_of_row w4 g 0 _ _ _ hr4]; rfl
 have c2:w4.cell? ⟨g,2,none⟩=some (.string name):=by rw [cell_of_row w4 g 2 _ _ _ hr4]; rfl
 clear hr4;go_wp2_with fail;refine (close_any W B _ w4 HX4.out.p HB4.out).mono ?_;rintro e' w6 ⟨rfl,hx⟩;have HX6:=zz (HX4.out.trans hx);clear hx;go_wp2_with fail;go_returns;exact ⟨rfl,by rw [HM.out]; exact HX6.out⟩
end Go.Proofs.YtjgkacggjhobmaaGreatDoor
