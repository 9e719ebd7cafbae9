import Derived.Test.YtjgkacggjhobmaaGreatDoorLyPkH
import Derived.Test.YtjgkacggjhobmaaGreatDoorLyPkF
set_option maxRecDepth 100000
set_option maxHeartbeats 25600000
set_option linter.unusedSimpArgs false
set_option linter.unusedVariables false
namespace Go.Proofs.YtjgkacggjhobmaaGreatDoor
open Go.RowKit Lx
theorem sm_new (w:World) (B:Nat) (hB:B≤w.heap.size) (kind:Int) (name:ByteArray) (a:Option Addr) (s:Sy.Sm) (h:SmAt w B a s) :
    SmAt ((w.alloc (.cells #[.pointer a] 93)).alloc (.cells (smRow kind Sy.vr0 name false 0 none none none (.slice (some ⟨w.heap.size,0,none⟩) 1 1)) 171)) B (some ⟨w.heap.size+1,0,none⟩) (.mk kind Sy.vr0 name false 0 none none none [s]):=by
 have hkk:Keeps No w ((w.alloc (.cells #[.pointer a] 93)).alloc (.cells (smRow kind Sy.vr0 name false 0 none none none (.slice (some ⟨w.heap.size,0,none⟩) 1 1)) 171)):=((Keeps.refl _ _).alloc _).alloc _;have hrow:(w.alloc (.cells #[.pointer a] 93)).ownsRow 0 93 1 (.slice (some ⟨w.heap.size,0,none⟩) 1 1) 1 [.pointer a] :=
  ⟨rfl,.inr ⟨w.heap.size,1,#[.pointer a],rfl,Nat.zero_le _,heap_alloc_new _ _,Nat.le_refl _,by unfold maxLen; simp,rfl,rfl⟩⟩
 refine .mk (w.heap.size+1) (some ⟨w.heap.size,0,none⟩) 1 [a] kind Sy.vr0 name false 0 none none none none none none [s] (show B≤_ by omega) ?_ .none .none .none (hrow.alloc _) (fun q hq=>?_) rfl (fun i a' s' ha hs=>?_)
 · have e:w.heap.size+1=(w.alloc (.cells #[.pointer a] 93)).heap.size:=by simp
   rw [e]; exact heap_alloc_new _ _
 · have e1:w.heap.size=q:=by injection hq
   show B≤q; omega
 · cases i with
   | zero =>
     obtain rfl:a=a':=by simpa using ha
     obtain rfl:s=s':=by simpa using hs
     exact h.no hkk
   | succ i=>cases ha
theorem st_block (K:Pk) (f:Nat) (ih:∀ g,g≤f→AllS K g) (σ:Sy.St) (w:World) (h:PS w K σ) (hf:10 * rem K σ+6≤f+1) (h1:Sy.isM K.C σ ⟨#[123]⟩=true) :
    Calls Tryz.prog 109 #[.pointer (some ⟨K.P,0,none⟩)] w (SmPost w K (Sy.S K.C (f+1) .stmt σ)):=by
 have hle:=h.le;have HS:=zz h;have HBB:=zz h.ord.2.2.2;obtain ⟨t,ht⟩:∃ t,Sy.peekM K.C σ 0=t:=⟨_,rfl⟩;have htx:Sy.txt K.C σ=t.text:=by unfold Sy.txt; rw [ht]
 have HPK:=zz (fun W (hs:PS W K σ)=>peek_as K σ 0 (by omega) t ht 0 rfl W hs);have HIS:=zz (fun W (hs:PS W K σ)=>is_as K σ ⟨#[123]⟩ _ h1 W hs);have HB:=zz (fun W (hs:PS W K σ)=>(ih f (Nat.le_refl f)).block σ W hs (by omega));have HM:Hid (Sy.S K.C (f+1) .stmt σ=Sy.S K.C f .block σ):=zz (Sy.S_block h1);obtain ⟨r,hr⟩:∃ r,Sy.S K.C f .block σ=r:=⟨_,rfl⟩;rw [hr] at HB HM;obtain ⟨s1,φ⟩:=r;clear ih h hle hf htx ht h1 hr;go_enter Tryz.func109,Tryz.ntmps109;go_wp2_with fail;refine (HPK.out w HS.out).mono ?_;rintro e w1 ⟨rfl,hk⟩;have HK1:=zz hk;clear hk;go_upto_region 2 with fail
 obtain ⟨w2,hw2⟩:∃ W,w1.alloc (.cells #[.int .i64 t.kind,.int .i64 (t.at_:Int),.string t.text,.string t.suf,.int .u64 t.num,.bool t.hex] 83)=W:=⟨_,rfl⟩;obtain ⟨Q,hQ⟩:∃ q,w1.heap.size=q:=⟨_,rfl⟩;have r1:w2.heap[Q]?=some (.cells #[.int .i64 t.kind,.int .i64 (t.at_:Int),.string t.text,.string t.suf,.int .u64 t.num,.bool t.hex] 83 (0,0)):=by rw [← hw2,← hQ]; exact heap_alloc_new _ _
 have HK2:Hid (Keeps No w w2):=zz (by rw [← hw2]; exact HK1.out.alloc _);have HR2:=zz r1;have HQW:Hid (w.heap.size≤Q∧Q≠K.P):=zz ⟨by have:=HK1.out.size; omega,by have:=HK1.out.size; have:=HS.out.lt; omega⟩;rw [hw2,hQ];clear hw2 hQ r1 HK1;go_wp2_with fail;refine (HIS.out w2 (HS.out.no HK2.out)).mono ?_;rintro e w3 ⟨rfl,hk⟩;have HK3:Hid (Keeps No w w3):=zz (HK2.out.trans hk (fun _ _ e=>e));have HR3:Hid (w3.heap[Q]?=some (.cells #[.int .i64 t.kind,.int .i64 (t.at_:Int),.string t.text,.string t.suf,.int .u64 t.num,.bool t.hex] 83 (0,0))):=zz ((hk.block _ (Array.getElem?_eq_some_iff.1 HR2.out).1 (fun e=>e)).trans HR2.out);clear hk HR2;go_wp2_with fail;refine (HB.out w3 (HS.out.no HK3.out)).mono ?_;rintro e' w9 ⟨a9,rfl,hat,hsm⟩;have HA9:=zz ((At.of_no HS.out HK3.out).trans hat);have HX9:=zz (fun (hc:φ.code=0)=>(hsm hc).mono ((At.of_no HS.out HK3.out)).k.size);clear hat hsm;go_wp2_with fail;go_returns;rw [HM.out];exact ⟨_,rfl,HA9.out,HX9.out⟩
theorem st_skip (K:Pk) (f:Nat) (ih:∀ g,g≤f→AllS K g) (σ:Sy.St) (w:World) (h:PS w K σ) (hf:10 * rem K σ+6≤f+1) (h1:Sy.isM K.C σ ⟨#[123]⟩=false) (h2:Sy.isM K.C σ ⟨#[59]⟩=true) :
    Calls Tryz.prog 109 #[.pointer (some ⟨K.P,0,none⟩)] w (SmPost w K (Sy.S K.C (f+1) .stmt σ)):=by
 have hle:=h.le;have HS:=zz h;have HBB:=zz h.ord.2.2.2;obtain ⟨t,ht⟩:∃ t,Sy.peekM K.C σ 0=t:=⟨_,rfl⟩;have htx:Sy.txt K.C σ=t.text:=by unfold Sy.txt; rw [ht]
 have HPK:=zz (fun W (hs:PS W K σ)=>peek_as K σ 0 (by omega) t ht 0 rfl W hs);have HIS:=zz (fun W (hs:PS W K σ)=>is_as K σ ⟨#[123]⟩ _ h1 W hs);have HTK:=zz (fun W (hs:PS W K σ)=>take_any K σ ⟨#[59]⟩ _ h2 W hs);obtain ⟨χ,hχ⟩:∃ x,Sy.nextM K.C σ=x:=⟨_,rfl⟩;have HM:Hid (Sy.S K.C (f+1) .stmt σ=(.mk 2 Sy.vr0 Sy.nt false 0 none none none [],χ)):=zz (by rw [Sy.S_skip (by rw [h1]; decide) h2,hχ]);rw [hχ] at HTK;clear ih h hle hf htx ht h1 h2 hχ;go_enter Tryz.func109,Tryz.ntmps109;go_wp2_with fail;refine (HPK.out w HS.out).mono ?_;rintro e w1 ⟨rfl,hk⟩;have HK1:=zz hk;clear hk;go_upto_region 2 with fail
 obtain ⟨w2,hw2⟩:∃ W,w1.alloc (.cells #[.int .i64 t.kind,.int .i64 (t.at_:Int),.string t.text,.string t.suf,.int .u64 t.num,.bool t.hex] 83)=W:=⟨_,rfl⟩;obtain ⟨Q,hQ⟩:∃ q,w1.heap.size=q:=⟨_,rfl⟩;have r1:w2.heap[Q]?=some (.cells #[.int .i64 t.kind,.int .i64 (t.at_:Int),.string t.text,.string t.suf,.int .u64 t.num,.bool t.hex] 83 (0,0)):=by rw [← hw2,← hQ]; exact heap_alloc_new _ _
 have HK2:Hid (Keeps No w w2):=zz (by rw [← hw2]; exact HK1.out.alloc _);have HR2:=zz r1;have HQW:Hid (w.heap.size≤Q∧Q≠K.P):=zz ⟨by have:=HK1.out.size; omega,by have:=HK1.out.size; have:=HS.out.lt; omega⟩;rw [hw2,hQ];clear hw2 hQ r1 HK1;go_wp2_with fail;refine (HIS.out w2 (HS.out.no HK2.out)).mono ?_;rintro e w3 ⟨rfl,hk⟩;have HK3:Hid (Keeps No w w3):=zz (HK2.out.trans hk (fun _ _ e=>e));have HR3:Hid (w3.heap[Q]?=some (.cells #[.int .i64 t.kind,.int .i64 (t.at_:Int),.string t.text,.string t.suf,.int .u64 t.num,.bool t.hex] 83 (0,0))):=zz ((hk.block _ (Array.getElem?_eq_some_iff.1 HR2.out).1 (fun e=>e)).trans HR2.out);clear hk HR2;go_wp2_with fail;refine (HTK.out w3 (HS.out.no HK3.out)).mono ?_;rintro e w4 ⟨rfl,hat⟩;have hat2:At w3 w4 K χ:=hat;have HA4:=zz (At.after HK3.out hat2);clear hat hat2;have hnw:(w4.alloc (.cells #[.int .i64 2,.string ⟨#[]⟩,.string ⟨#[]⟩,.int .i64 0,.bool false,.int .u64 0,.string ⟨#[]⟩,.bool false,.int .u64 0,.pointer none,.pointer none,.pointer none,.slice none 0 0] 171)).heap[w4.heap.size]?=some (.cells (smRow 2 Sy.vr0 Sy.nt false 0 none none none (.slice none 0 0)) 171 (0,0)):=heap_alloc_new _ _;have HN:=zz (Nod.bare (Nat.le_refl w4.heap.size) hnw);have HA9:=zz (HA4.out.no ((Keeps.refl _ w4).alloc (.cells #[.int .i64 2,.string ⟨#[]⟩,.string ⟨#[]⟩,.int .i64 0,.bool false,.int .u64 0,.string ⟨#[]⟩,.bool false,.int .u64 0,.pointer none,.pointer none,.pointer none,.slice none 0 0] 171)));have HX9:Hid (χ.code=0→SmAt (w4.alloc (.cells #[.int .i64 2,.string ⟨#[]⟩,.string ⟨#[]⟩,.int .i64 0,.bool false,.int .u64 0,.string ⟨#[]⟩,.bool false,.int .u64 0,.pointer none,.pointer none,.pointer none,.slice none 0 0] 171)) w.heap.size (some ⟨w4.heap.size,0,none⟩) (.mk 2 Sy.vr0 Sy.nt false 0 none none none [])):=zz (fun _=>(HN.out.1.fin HN.out.2).mono HA4.out.k.size);clear hnw;go_wp2_with fail;go_returns;rw [HM.out];exact ⟨_,rfl,HA9.out,HX9.out⟩
theorem st_let (K:Pk) (f:Nat) (ih:∀ g,g≤f→AllS K g) (σ:Sy.St) (w:World) (h:PS w K σ) (hf:10 * rem K σ+6≤f+1) (h1:Sy.isM K.C σ ⟨#[123]⟩=false) (h2:Sy.isM K.C σ ⟨#[59]⟩=false) (h3:Sy.typedM K.C σ=true) :
    Calls Tryz.prog 109 #[.pointer (some ⟨K.P,0,none⟩)] w (SmPost w K (Sy.S K.C (f+1) .stmt σ)):=by
 have hle:=h.le;have HS:=zz h;have HBB:=zz h.ord.2.2.2;obtain ⟨t,ht⟩:∃ t,Sy.peekM K.C σ 0=t:=⟨_,rfl⟩;have htx:Sy.txt K.C σ=t.text:=by unfold Sy.txt; rw [ht]
 have HPK:=zz (fun W (hs:PS W K σ)=>peek_as K σ 0 (by omega) t ht 0 rfl W hs);have HIS:=zz (fun W (hs:PS W K σ)=>is_as K σ ⟨#[123]⟩ _ h1 W hs);have HTK:=zz (fun W (hs:PS W K σ)=>take_any K σ ⟨#[59]⟩ _ h2 W hs);have HTY:=zz (fun W (hs:PS W K σ)=>typed_any K σ W hs);rw [h3] at HTY;have HL:=zz (fun W (hs:PS W K σ)=>let_any K σ W hs);have HM:Hid (Sy.S K.C (f+1) .stmt σ=Sy.letM K.C σ):=zz (Sy.S_let (by rw [h1]; decide) (by rw [h2]; decide) h3);obtain ⟨r,hr⟩:∃ r,Sy.letM K.C σ=r:=⟨_,rfl⟩;rw [hr] at HL HM;obtain ⟨s1,φ⟩:=r;clear ih h hle hf htx ht h1 h2 h3 hr;go_enter Tryz.func109,Tryz.ntmps109;go_wp2_with fail;refine (HPK.out w HS.out).mono ?_;rintro e w1 ⟨rfl,hk⟩;have HK1:=zz hk;clear hk;go_upto_region 2 with fail
 obtain ⟨w2,hw2⟩:∃ W,w1.alloc (.cells #[.int .i64 t.kind,.int .i64 (t.at_:Int),.string t.text,.string t.suf,.int .u64 t.num,.bool t.hex] 83)=W:=⟨_,rfl⟩;obtain ⟨Q,hQ⟩:∃ q,w1.heap.size=q:=⟨_,rfl⟩;have r1:w2.heap[Q]?=some (.cells #[.int .i64 t.kind,.int .i64 (t.at_:Int),.string t.text,.string t.suf,.int .u64 t.num,.bool t.hex] 83 (0,0)):=by rw [← hw2,← hQ]; exact heap_alloc_new _ _
 have HK2:Hid (Keeps No w w2):=zz (by rw [← hw2]; exact HK1.out.alloc _);have HR2:=zz r1;have HQW:Hid (w.heap.size≤Q∧Q≠K.P):=zz ⟨by have:=HK1.out.size; omega,by have:=HK1.out.size; have:=HS.out.lt; omega⟩;rw [hw2,hQ];clear hw2 hQ r1 HK1;go_wp2_with fail;refine (HIS.out w2 (HS.out.no HK2.out)).mono ?_;rintro e w3 ⟨rfl,hk⟩;have HK3:Hid (Keeps No w w3):=zz (HK2.out.trans hk (fun _ _ e=>e));have HR3:Hid (w3.heap[Q]?=some (.cells #[.int .i64 t.kind,.int .i64 (t.at_:Int),.string t.text,.string t.suf,.int .u64 t.num,.bool t.hex] 83 (0,0))):=zz ((hk.block _ (Array.getElem?_eq_some_iff.1 HR2.out).1 (fun e=>e)).trans HR2.out);clear hk HR2;go_wp2_with fail;refine (HTK.out w3 (HS.out.no HK3.out)).mono ?_;rintro e w4 ⟨rfl,hat⟩;have hat2:At w3 w4 K σ:=hat;have HA4:=zz (At.after HK3.out hat2);have HR4:Hid (w4.heap[Q]?=some (.cells #[.int .i64 t.kind,.int .i64 (t.at_:Int),.string t.text,.string t.suf,.int .u64 t.num,.bool t.hex] 83 (0,0))):=zz ((hat2.k.block _ (Array.getElem?_eq_some_iff.1 HR3.out).1 (fun e=>HQW.out.2 e)).trans HR3.out);clear hat hat2 HR3;go_wp2_with fail;refine (HTY.out w4 HA4.out.p).mono ?_;rintro e w5 ⟨rfl,hk⟩;have HA5:=zz (HA4.out.no hk);have HR5:Hid (w5.heap[Q]?=some (.cells #[.int .i64 t.kind,.int .i64 (t.at_:Int),.string t.text,.string t.suf,.int .u64 t.num,.bool t.hex] 83 (0,0))):=zz ((hk.block _ (Array.getElem?_eq_some_iff.1 HR4.out).1 (fun e=>e)).trans HR4.out);clear hk HR4;go_wp2_with fail;refine (HL.out w5 HA5.out.p).mono ?_;rintro e' w9 ⟨a9,rfl,hat,hsm⟩;have HA9:=zz (HA5.out.trans hat);have HX9:=zz (fun (hc:φ.code=0)=>(hsm hc).mono (HA5.out).k.size);clear hat hsm;go_wp2_with fail;go_returns;rw [HM.out];exact ⟨_,rfl,HA9.out,HX9.out⟩
theorem st_label (K:Pk) (f:Nat) (ih:∀ g,g≤f→AllS K g) (σ:Sy.St) (w:World) (h:PS w K σ) (hf:10 * rem K σ+6≤f+1) (h1:Sy.isM K.C σ ⟨#[123]⟩=false) (h2:Sy.isM K.C σ ⟨#[59]⟩=false) (h3:Sy.typedM K.C σ=false) (h4:(Sy.peekM K.C σ 0).kind=1) (h5:((Sy.peekM K.C σ 1).text==⟨#[58]⟩)=true) :
    Calls Tryz.prog 109 #[.pointer (some ⟨K.P,0,none⟩)] w (SmPost w K (Sy.S K.C (f+1) .stmt σ)):=by
 have hle:=h.le;have HS:=zz h;have HBB:=zz h.ord.2.2.2;obtain ⟨t,ht⟩:∃ t,Sy.peekM K.C σ 0=t:=⟨_,rfl⟩;have htx:Sy.txt K.C σ=t.text:=by unfold Sy.txt; rw [ht]
 have HPK:=zz (fun W (hs:PS W K σ)=>peek_as K σ 0 (by omega) t ht 0 rfl W hs);have HIS:=zz (fun W (hs:PS W K σ)=>is_as K σ ⟨#[123]⟩ _ h1 W hs);have HTK:=zz (fun W (hs:PS W K σ)=>take_any K σ ⟨#[59]⟩ _ h2 W hs);have HTY:=zz (fun W (hs:PS W K σ)=>typed_any K σ W hs);rw [h3] at HTY;obtain ⟨t2,ht2⟩:∃ t2,Sy.peekM K.C σ 1=t2:=⟨_,rfl⟩;have HPK2:=zz (fun W (hs:PS W K σ)=>peek_as K σ 1 (by omega) t2 ht2 1 rfl W hs);have f2:=fun W=>(tk_fld t2.kind t2.at_ t2.text t2.suf t2.num t2.hex W).2.2
 have hlt:σ.at_ < K.C.T.length:=by
  refine Classical.byContradiction (fun hn=>?_);rw [peek_end (by omega)] at h4;exact absurd (show (0:Int)=1 from h4) (by decide)
 have hr1:=rem_next hlt;have h45:=And.intro h4 h5;rw [ht] at h4;rw [ht2,eqL] at h5;have k1:(t.kind==1)=true:=beq_iff_eq.2 h4;have k2:(t2.text.toList==[58])=true:=h5;have HNX:=zz (fun W (hs:PS W K σ)=>next_any K σ W hs);obtain ⟨χ1,hχ1⟩:∃ x,Sy.nextM K.C σ=x:=⟨_,rfl⟩;have hm1:Sy.Mo K.C σ χ1:=by rw [← hχ1]; exact (Sy.Mo.refl hle).next
 rw [hχ1] at HNX hr1;have HNX2:=zz (fun W (hs:PS W K χ1)=>next_any K χ1 W hs);obtain ⟨χ2,hχ2⟩:∃ x,Sy.nextM K.C χ1=x:=⟨_,rfl⟩;have hm2:Sy.Mo K.C χ1 χ2:=by rw [← hχ2]; exact (Sy.Mo.refl hm1.le).next
 rw [hχ2] at HNX2;have HY:=zz (fun W (hs:PS W K χ2)=>(ih f (Nat.le_refl f)).stmt χ2 W hs (by have:=rem_mo hm2; omega));obtain ⟨r,hr⟩:∃ r,Sy.S K.C f .stmt χ2=r:=⟨_,rfl⟩;rw [hr] at HY;obtain ⟨s1,φ⟩:=r;have HM:Hid (Sy.S K.C (f+1) .stmt σ=(.mk 15 Sy.vr0 t.text false 0 none none none [s1],φ)):=zz (by
  rw [Sy.S_label (by rw [h1]; decide) (by rw [h2]; decide) (by rw [h3]; decide) h45,hχ1,hχ2,hr,htx])
 clear ih h hle hf htx ht h1 h2 h3 h4 h5 h45 ht2 hlt hr1 hχ1 hm1 hχ2 hm2 hr;go_enter Tryz.func109,Tryz.ntmps109;go_wp2_with fail;refine (HPK.out w HS.out).mono ?_;rintro e w1 ⟨rfl,hk⟩;have HK1:=zz hk;clear hk;go_upto_region 2 with fail
 obtain ⟨w2,hw2⟩:∃ W,w1.alloc (.cells #[.int .i64 t.kind,.int .i64 (t.at_:Int),.string t.text,.string t.suf,.int .u64 t.num,.bool t.hex] 83)=W:=⟨_,rfl⟩;obtain ⟨Q,hQ⟩:∃ q,w1.heap.size=q:=⟨_,rfl⟩;have r1:w2.heap[Q]?=some (.cells #[.int .i64 t.kind,.int .i64 (t.at_:Int),.string t.text,.string t.suf,.int .u64 t.num,.bool t.hex] 83 (0,0)):=by rw [← hw2,← hQ]; exact heap_alloc_new _ _
 have HK2:Hid (Keeps No w w2):=zz (by rw [← hw2]; exact HK1.out.alloc _);have HR2:=zz r1;have HQW:Hid (w.heap.size≤Q∧Q≠K.P):=zz ⟨by have:=HK1.out.size; omega,by have:=HK1.out.size; have:=HS.out.lt; omega⟩;rw [hw2,hQ];clear hw2 hQ r1 HK1;go_wp2_with fail;refine (HIS.out w2 (HS.out.no HK2.out)).mono ?_;rintro e w3 ⟨rfl,hk⟩;have HK3:Hid (Keeps No w w3):=zz (HK2.out.trans hk (fun _ _ e=>e));have HR3:Hid (w3.heap[Q]?=some (.cells #[.int .i64 t.kind,.int .i64 (t.at_:Int),.string t.text,.string t.suf,.int .u64 t.num,.bool t.hex] 83 (0,0))):=zz ((hk.block _ (Array.getElem?_eq_some_iff.1 HR2.out).1 (fun e=>e)).trans HR2.out);clear hk HR2;go_wp2_with fail;refine (HTK.out w3 (HS.out.no HK3.out)).mono ?_;rintro e w4 ⟨rfl,hat⟩;have hat2:At w3 w4 K σ:=hat;have HA4:=zz (At.after HK3.out hat2);have HR4:Hid (w4.heap[Q]?=some (.cells #[.int .i64 t.kind,.int .i64 (t.at_:Int),.string t.text,.string t.suf,.int .u64 t.num,.bool t.hex] 83 (0,0))):=zz ((hat2.k.block _ (Array.getElem?_eq_some_iff.1 HR3.out).1 (fun e=>HQW.out.2 e)).trans HR3.out);clear hat hat2 HR3;go_wp2_with fail;refine (HTY.out w4 HA4.out.p).mono ?_;rintro e w5 ⟨rfl,hk⟩;have HA5:=zz (HA4.out.no hk);have HR5:Hid (w5.heap[Q]?=some (.cells #[.int .i64 t.kind,.int .i64 (t.at_:Int),.string t.text,.string t.suf,.int .u64 t.num,.bool t.hex] 83 (0,0))):=zz ((hk.block _ (Array.getElem?_eq_some_iff.1 HR4.out).1 (fun e=>e)).trans HR4.out);clear hk HR4;have q0:w5.cell? ⟨Q,0,none⟩=some (.int .i64 t.kind):=by rw [cell_of_row w5 Q 0 _ _ _ HR5.out]; rfl
 have q2:w5.cell? ⟨Q,2,none⟩=some (.string t.text):=by rw [cell_of_row w5 Q 2 _ _ _ HR5.out]; rfl
 go_wp2_with fail;refine (HPK2.out w5 HA5.out.p).mono ?_;rintro e w6 ⟨rfl,hk⟩;have HA6:=zz (HA5.out.no hk);have HR6:Hid (w6.heap[Q]?=some (.cells #[.int .i64 t.kind,.int .i64 (t.at_:Int),.string t.text,.string t.suf,.int .u64 t.num,.bool t.hex] 83 (0,0))):=zz ((hk.block _ (Array.getElem?_eq_some_iff.1 HR5.out).1 (fun e=>e)).trans HR5.out);clear hk HR5;go_wp2_with fail;clear q0 q2 k1 k2;refine (HNX.out w6 HA6.out.p).mono ?_;rintro e w7 ⟨rfl,hat⟩;have HA7:=zz (HA6.out.trans hat);have HR7:Hid (w7.heap[Q]?=some (.cells #[.int .i64 t.kind,.int .i64 (t.at_:Int),.string t.text,.string t.suf,.int .u64 t.num,.bool t.hex] 83 (0,0))):=zz ((hat.k.block _ (Array.getElem?_eq_some_iff.1 HR6.out).1 (fun e=>HQW.out.2 e)).trans HR6.out);clear hat HR6;go_wp2_with fail;refine (HNX2.out w7 HA7.out.p).mono ?_;rintro e w8 ⟨rfl,hat⟩;have HA8:=zz (HA7.out.trans hat);have HR8:Hid (w8.heap[Q]?=some (.cells #[.int .i64 t.kind,.int .i64 (t.at_:Int),.string t.text,.string t.suf,.int .u64 t.num,.bool t.hex] 83 (0,0))):=zz ((hat.k.block _ (Array.getElem?_eq_some_iff.1 HR7.out).1 (fun e=>HQW.out.2 e)).trans HR7.out);clear hat HR7;go_upto_region 11 with fail
 have q2:w8.cell? ⟨Q,2,none⟩=some (.string t.text):=by rw [cell_of_row w8 Q 2 _ _ _ HR8.out]; rfl
 have p2:∀ u:KS (KP K) w8,u.W.cell? ⟨Q,2,none⟩=some (.string t.text):=fun u=>u.cell q2 (fun e=>HQW.out.2 e)
 clear q2;have hne:Nonempty (KS (KP K) w8):=⟨⟨w8,Keeps.refl _ _⟩⟩;refine Mix.wp_region_mix (fun W'=>∃ u:KS (KP K) w8,W'=u.W) [] (by kernel_rfl) ?_;have HV0:Hid (Keeps No w8 w8.drew):=zz ((Keeps.refl _ w8).drew);generalize w8.drew=v0 at HV0 ⊢;have HC0:Hid (Keeps (KP K) w8 v0):=zz (HV0.out.mono (fun _ _ e=>e.elim));have HAV0:=zz (HA8.out.no HV0.out);refine Mix.mix_seg 0 3 5 (by kernel_rfl) (by kernel_rfl) rfl rfl ⟨⟨v0,HC0.out⟩,rfl⟩ ?_;simp only [zp1,zp2,zp3,zp4]
 repeat (go_big_quiet_step (fail))
 refine wpQuiet_nil ?_;clear p2;refine Mix.mix_one 3 4 (by kernel_rfl) rfl rfl ?_;simp only [zp1,zp2,zp3,zp4];go_wp2_with fail;refine (HY.out v0 HAV0.out.p).mono ?_;rintro e' v1 ⟨a1,rfl,hat,hsm⟩;have HC1:Hid (Keeps (KP K) w8 v1):=zz (HC0.out.trans hat.k (fun q _ e=>e));have HAV1:=zz (HAV0.out.trans hat);have HSM1:=zz (fun (hc:φ.code=0)=>(hsm hc).mono HAV0.out.k.size);clear hat hsm;go_wp2_with fail;refine ⟨.inr ⟨⟨v1,HC1.out⟩,rfl⟩,?_⟩;refine Mix.mix_one 4 3 (by kernel_rfl) rfl rfl ?_;simp only [zp1,zp2,zp3,zp4];go_wp2_with fail;refine ⟨.inr ⟨⟨v1.alloc (.cells #[.pointer a1] 93),HC1.out.alloc _⟩,rfl⟩,?_⟩;refine Mix.mix_one 5 2 (by kernel_rfl) rfl rfl ?_;simp only [zp1,zp2,zp3,zp4];go_wp2_with fail;refine ⟨.inr ⟨⟨v1.alloc (.cells #[.pointer a1] 93),HC1.out.alloc _⟩,rfl⟩,?_⟩;refine Mix.mix_one 6 1 (by kernel_rfl) rfl rfl ?_;simp only [zp1,zp2,zp3,zp4];go_wp2_with fail;have HA9:=zz (HAV1.out.no (((Keeps.refl _ v1).alloc (.cells #[.pointer a1] 93)).alloc (.cells (smRow 15 Sy.vr0 t.text false 0 none none none (.slice (some ⟨v1.heap.size,0,none⟩) 1 1)) 171)));have HX9:=zz (fun (hc:φ.code=0)=>sm_new v1 w.heap.size HAV1.out.k.size 15 t.text a1 s1 (HSM1.out hc));have HC9:Hid (Keeps (KP K) w8 ((v1.alloc (.cells #[.pointer a1] 93)).alloc (.cells (smRow 15 Sy.vr0 t.text false 0 none none none (.slice (some ⟨v1.heap.size,0,none⟩) 1 1)) 171))):=zz ((HC1.out.alloc _).alloc _);refine ⟨.inr ⟨⟨_,HC9.out⟩,rfl⟩,?_⟩;refine Mix.mix_one 7 0 (by kernel_rfl) rfl rfl ?_;simp only [zp1,zp2,zp3,zp4];go_wp2_with fail;refine ⟨.inr ⟨⟨_,HC9.out⟩,rfl⟩,?_⟩;refine Mix.mix_end (by kernel_rfl) ?_;clear hne;go_wp2_with fail;go_returns;rw [HM.out];exact ⟨_,rfl,HA9.out,HX9.out⟩
theorem st_word (K:Pk) (f:Nat) (ih:∀ g,g≤f→AllS K g) (σ:Sy.St) (w:World) (h:PS w K σ) (hf:10 * rem K σ+6≤f+1) (h1:Sy.isM K.C σ ⟨#[123]⟩=false) (h2:Sy.isM K.C σ ⟨#[59]⟩=false) (h3:Sy.typedM K.C σ=false) (h4:(Sy.peekM K.C σ 0).kind=2) (h5:Sy.isM K.C σ ⟨#[115,105,122,101,111,102]⟩=false) :
    Calls Tryz.prog 109 #[.pointer (some ⟨K.P,0,none⟩)] w (SmPost w K (Sy.S K.C (f+1) .stmt σ)):=by
 have hle:=h.le;have HS:=zz h;have HBB:=zz h.ord.2.2.2;obtain ⟨t,ht⟩:∃ t,Sy.peekM K.C σ 0=t:=⟨_,rfl⟩;have htx:Sy.txt K.C σ=t.text:=by unfold Sy.txt; rw [ht]
 have HPK:=zz (fun W (hs:PS W K σ)=>peek_as K σ 0 (by omega) t ht 0 rfl W hs);have HIS:=zz (fun W (hs:PS W K σ)=>is_as K σ ⟨#[123]⟩ _ h1 W hs);have HTK:=zz (fun W (hs:PS W K σ)=>take_any K σ ⟨#[59]⟩ _ h2 W hs);have HTY:=zz (fun W (hs:PS W K σ)=>typed_any K σ W hs);rw [h3] at HTY;have hlt:σ.at_ < K.C.T.length:=by
  refine Classical.byContradiction (fun hn=>?_);rw [peek_end (by omega)] at h4;exact absurd (show (0:Int)=2 from h4) (by decide)
 have h4a:¬ ((Sy.peekM K.C σ 0).kind=1∧((Sy.peekM K.C σ 1).text==⟨#[58]⟩)=true):=fun e=>by have:=e.1; omega
 have h4b:(Sy.peekM K.C σ 0).kind=2∧¬ Sy.isM K.C σ ⟨#[115,105,122,101,111,102]⟩=true:=⟨h4,by rw [h5]; decide⟩;rw [ht] at h4;rw [is_txt,htx] at h5;have k1:(t.kind==1)=false:=beq_eq_false_iff_ne.2 (by omega);have k2:(t.kind==2)=true:=beq_iff_eq.2 h4;have k3:(t.text.toList==[115,105,122,101,111,102])=false:=h5;have HY:=zz (fun W (hs:PS W K σ)=>worded_any K f (fun g hg=>(ih g hg).stmt) σ W hs hlt hf);obtain ⟨r,hr⟩:∃ r,Sy.wordM K.C f σ=r:=⟨_,rfl⟩;rw [hr] at HY;obtain ⟨s1,φ⟩:=r;have HM:Hid (Sy.S K.C (f+1) .stmt σ=(s1,φ)):=zz (by
  rw [Sy.S_word (by rw [h1]; decide) (by rw [h2]; decide) (by rw [h3]; decide) h4a h4b,hr])
 clear ih h hle hf htx ht h1 h2 h3 h4 h5 h4a h4b hlt hr;go_enter Tryz.func109,Tryz.ntmps109;go_wp2_with fail;refine (HPK.out w HS.out).mono ?_;rintro e w1 ⟨rfl,hk⟩;have HK1:=zz hk;clear hk;go_upto_region 2 with fail
 obtain ⟨w2,hw2⟩:∃ W,w1.alloc (.cells #[.int .i64 t.kind,.int .i64 (t.at_:Int),.string t.text,.string t.suf,.int .u64 t.num,.bool t.hex] 83)=W:=⟨_,rfl⟩;obtain ⟨Q,hQ⟩:∃ q,w1.heap.size=q:=⟨_,rfl⟩;have r1:w2.heap[Q]?=some (.cells #[.int .i64 t.kind,.int .i64 (t.at_:Int),.string t.text,.string t.suf,.int .u64 t.num,.bool t.hex] 83 (0,0)):=by rw [← hw2,← hQ]; exact heap_alloc_new _ _
 have HK2:Hid (Keeps No w w2):=zz (by rw [← hw2]; exact HK1.out.alloc _);have HR2:=zz r1;have HQW:Hid (w.heap.size≤Q∧Q≠K.P):=zz ⟨by have:=HK1.out.size; omega,by have:=HK1.out.size; have:=HS.out.lt; omega⟩;rw [hw2,hQ];clear hw2 hQ r1 HK1;go_wp2_with fail;refine (HIS.out w2 (HS.out.no HK2.out)).mono ?_;rintro e w3 ⟨rfl,hk⟩;have HK3:Hid (Keeps No w w3):=zz (HK2.out.trans hk (fun _ _ e=>e));have HR3:Hid (w3.heap[Q]?=some (.cells #[.int .i64 t.kind,.int .i64 (t.at_:Int),.string t.text,.string t.suf,.int .u64 t.num,.bool t.hex] 83 (0,0))):=zz ((hk.block _ (Array.getElem?_eq_some_iff.1 HR2.out).1 (fun e=>e)).trans HR2.out);clear hk HR2;go_wp2_with fail;refine (HTK.out w3 (HS.out.no HK3.out)).mono ?_;rintro e w4 ⟨rfl,hat⟩;have hat2:At w3 w4 K σ:=hat;have HA4:=zz (At.after HK3.out hat2);have HR4:Hid (w4.heap[Q]?=some (.cells #[.int .i64 t.kind,.int .i64 (t.at_:Int),.string t.text,.string t.suf,.int .u64 t.num,.bool t.hex] 83 (0,0))):=zz ((hat2.k.block _ (Array.getElem?_eq_some_iff.1 HR3.out).1 (fun e=>HQW.out.2 e)).trans HR3.out);clear hat hat2 HR3;go_wp2_with fail;refine (HTY.out w4 HA4.out.p).mono ?_;rintro e w5 ⟨rfl,hk⟩;have HA5:=zz (HA4.out.no hk);have HR5:Hid (w5.heap[Q]?=some (.cells #[.int .i64 t.kind,.int .i64 (t.at_:Int),.string t.text,.string t.suf,.int .u64 t.num,.bool t.hex] 83 (0,0))):=zz ((hk.block _ (Array.getElem?_eq_some_iff.1 HR4.out).1 (fun e=>e)).trans HR4.out);clear hk HR4;have q0:w5.cell? ⟨Q,0,none⟩=some (.int .i64 t.kind):=by rw [cell_of_row w5 Q 0 _ _ _ HR5.out]; rfl
 have q2:w5.cell? ⟨Q,2,none⟩=some (.string t.text):=by rw [cell_of_row w5 Q 2 _ _ _ HR5.out]; rfl
 go_wp2_with fail;refine (HY.out w5 HA5.out.p).mono ?_;rintro e' w9 ⟨a9,rfl,hat,hsm⟩;have HA9:=zz (HA5.out.trans hat);have HX9:=zz (fun (hc:φ.code=0)=>(hsm hc).mono (HA5.out).k.size);clear hat hsm;go_wp2_with fail;go_returns;rw [HM.out];exact ⟨_,rfl,HA9.out,HX9.out⟩
theorem st_expr (K:Pk) (f:Nat) (ih:∀ g,g≤f→AllS K g) (σ:Sy.St) (w:World) (h:PS w K σ) (hf:10 * rem K σ+6≤f+1) (h1:Sy.isM K.C σ ⟨#[123]⟩=false) (h2:Sy.isM K.C σ ⟨#[59]⟩=false) (h3:Sy.typedM K.C σ=false) (h4:¬ ((Sy.peekM K.C σ 0).kind=1∧((Sy.peekM K.C σ 1).text==⟨#[58]⟩)=true)) (h5:¬ ((Sy.peekM K.C σ 0).kind=2∧¬ Sy.isM K.C σ ⟨#[115,105,122,101,111,102]⟩=true)) :
    Calls Tryz.prog 109 #[.pointer (some ⟨K.P,0,none⟩)] w (SmPost w K (Sy.S K.C (f+1) .stmt σ)):=by
 have hle:=h.le;have HS:=zz h;have HBB:=zz h.ord.2.2.2;obtain ⟨t,ht⟩:∃ t,Sy.peekM K.C σ 0=t:=⟨_,rfl⟩;have htx:Sy.txt K.C σ=t.text:=by unfold Sy.txt; rw [ht]
 have HPK:=zz (fun W (hs:PS W K σ)=>peek_as K σ 0 (by omega) t ht 0 rfl W hs);have HIS:=zz (fun W (hs:PS W K σ)=>is_as K σ ⟨#[123]⟩ _ h1 W hs);have HTK:=zz (fun W (hs:PS W K σ)=>take_any K σ ⟨#[59]⟩ _ h2 W hs);have HTY:=zz (fun W (hs:PS W K σ)=>typed_any K σ W hs);rw [h3] at HTY;obtain ⟨t2,ht2⟩:∃ t2,Sy.peekM K.C σ 1=t2:=⟨_,rfl⟩;have HPK2:=zz (fun W (hs:PS W K σ)=>peek_as K σ 1 (by omega) t2 ht2 1 rfl W hs);have f2:=fun W=>(tk_fld t2.kind t2.at_ t2.text t2.suf t2.num t2.hex W).2.2
 have HX:=zz (fun W (hs:PS W K σ)=>exprM_any K σ W hs);have hmx:=Sy.exprM_mo (Sy.Mo.refl hle);obtain ⟨r,hr⟩:∃ r,Sy.exprM K.C σ=r:=⟨_,rfl⟩;rw [hr] at HX hmx;obtain ⟨x1,φ⟩:=r;simp only at hmx;have HW:=zz (fun W (hs:PS W K φ)=>want_any K φ ⟨#[59]⟩ W hs);obtain ⟨ψ,hψ⟩:∃ x,Sy.wantM K.C φ ⟨#[59]⟩=x:=⟨_,rfl⟩;have hmw:Sy.Mo K.C φ ψ:=by rw [← hψ]; exact (Sy.Mo.refl hmx.le).want _
 rw [hψ] at HW;have HM:Hid (Sy.S K.C (f+1) .stmt σ=(.mk 16 Sy.vr0 Sy.nt false 0 (some x1) none none [],ψ)):=zz (by
  rw [Sy.S_expr (by rw [h1]; decide) (by rw [h2]; decide) (by rw [h3]; decide) h4 h5];simp only [hr,hψ])
 have HCX:Hid (φ.code=0→σ.code=0):=zz hmx.code;have HCW:Hid (ψ.code=0→φ.code=0):=zz hmw.code;have hsp:((t.kind==1)=true∧(t2.text.toList==[58])=false∧(t.kind==2)=false)∨((t.kind==1)=false∧(t.kind==2)=true∧(t.text.toList==[115,105,122,101,111,102])=true)∨((t.kind==1)=false∧(t.kind==2)=false):=by
  have h4':¬ (t.kind=1∧(t2.text.toList==[58])=true):=by rw [ht,ht2,eqL] at h4; exact h4
  have h5':¬ (t.kind=2∧¬ (t.text.toList==[115,105,122,101,111,102])=true):=by rw [ht,is_txt,htx] at h5; exact h5
  by_cases e1:t.kind=1
  · refine .inl ⟨beq_iff_eq.2 e1,?_,beq_eq_false_iff_ne.2 (by omega)⟩;rw [← Bool.not_eq_true]; exact fun e=>h4' ⟨e1,e⟩
  · by_cases e2:t.kind=2
    · refine .inr (.inl ⟨beq_eq_false_iff_ne.2 e1,beq_iff_eq.2 e2,?_⟩);exact Classical.byContradiction (fun e=>h5' ⟨e2,e⟩)
    · exact .inr (.inr ⟨beq_eq_false_iff_ne.2 e1,beq_eq_false_iff_ne.2 e2⟩)
 clear ih h hle hf htx ht h1 h2 h3 h4 h5 ht2 hmx hr hψ hmw;go_enter Tryz.func109,Tryz.ntmps109;go_wp2_with fail;refine (HPK.out w HS.out).mono ?_;rintro e w1 ⟨rfl,hk⟩;have HK1:=zz hk;clear hk;go_upto_region 2 with fail
 obtain ⟨w2,hw2⟩:∃ W,w1.alloc (.cells #[.int .i64 t.kind,.int .i64 (t.at_:Int),.string t.text,.string t.suf,.int .u64 t.num,.bool t.hex] 83)=W:=⟨_,rfl⟩;obtain ⟨Q,hQ⟩:∃ q,w1.heap.size=q:=⟨_,rfl⟩;have r1:w2.heap[Q]?=some (.cells #[.int .i64 t.kind,.int .i64 (t.at_:Int),.string t.text,.string t.suf,.int .u64 t.num,.bool t.hex] 83 (0,0)):=by rw [← hw2,← hQ]; exact heap_alloc_new _ _
 have HK2:Hid (Keeps No w w2):=zz (by rw [← hw2]; exact HK1.out.alloc _);have HR2:=zz r1;have HQW:Hid (w.heap.size≤Q∧Q≠K.P):=zz ⟨by have:=HK1.out.size; omega,by have:=HK1.out.size; have:=HS.out.lt; omega⟩;rw [hw2,hQ];clear hw2 hQ r1 HK1;go_wp2_with fail;refine (HIS.out w2 (HS.out.no HK2.out)).mono ?_;rintro e w3 ⟨rfl,hk⟩;have HK3:Hid (Keeps No w w3):=zz (HK2.out.trans hk (fun _ _ e=>e));have HR3:Hid (w3.heap[Q]?=some (.cells #[.int .i64 t.kind,.int .i64 (t.at_:Int),.string t.text,.string t.suf,.int .u64 t.num,.bool t.hex] 83 (0,0))):=zz ((hk.block _ (Array.getElem?_eq_some_iff.1 HR2.out).1 (fun e=>e)).trans HR2.out);clear hk HR2;go_wp2_with fail;refine (HTK.out w3 (HS.out.no HK3.out)).mono ?_;rintro e w4 ⟨rfl,hat⟩;have hat2:At w3 w4 K σ:=hat;have HA4:=zz (At.after HK3.out hat2);have HR4:Hid (w4.heap[Q]?=some (.cells #[.int .i64 t.kind,.int .i64 (t.at_:Int),.string t.text,.string t.suf,.int .u64 t.num,.bool t.hex] 83 (0,0))):=zz ((hat2.k.block _ (Array.getElem?_eq_some_iff.1 HR3.out).1 (fun e=>HQW.out.2 e)).trans HR3.out);clear hat hat2 HR3;go_wp2_with fail;refine (HTY.out w4 HA4.out.p).mono ?_;rintro e w5 ⟨rfl,hk⟩;have HA5:=zz (HA4.out.no hk);have HR5:Hid (w5.heap[Q]?=some (.cells #[.int .i64 t.kind,.int .i64 (t.at_:Int),.string t.text,.string t.suf,.int .u64 t.num,.bool t.hex] 83 (0,0))):=zz ((hk.block _ (Array.getElem?_eq_some_iff.1 HR4.out).1 (fun e=>e)).trans HR4.out);clear hk HR4;have q0:w5.cell? ⟨Q,0,none⟩=some (.int .i64 t.kind):=by rw [cell_of_row w5 Q 0 _ _ _ HR5.out]; rfl
 have q2:w5.cell? ⟨Q,2,none⟩=some (.string t.text):=by rw [cell_of_row w5 Q 2 _ _ _ HR5.out]; rfl
 have HE:Hid (∀ W,At w W K σ→∃ N,N=W.heap.size∧At w (W.alloc (.cells #[.int .i64 16,.string ⟨#[]⟩,.string ⟨#[]⟩,.int .i64 0,.bool false,.int .u64 0,.string ⟨#[]⟩,.bool false,.int .u64 0,.pointer none,.pointer none,.pointer none,.slice none 0 0] 171)) K σ∧(w.heap.size≤N∧K.B≤N)∧Nod (W.alloc (.cells #[.int .i64 16,.string ⟨#[]⟩,.string ⟨#[]⟩,.int .i64 0,.bool false,.int .u64 0,.string ⟨#[]⟩,.bool false,.int .u64 0,.pointer none,.pointer none,.pointer none,.slice none 0 0] 171)) N N 16 Sy.vr0 Sy.nt false 0 none none none none 0 []∧Hung (W.alloc (.cells #[.int .i64 16,.string ⟨#[]⟩,.string ⟨#[]⟩,.int .i64 0,.bool false,.int .u64 0,.string ⟨#[]⟩,.bool false,.int .u64 0,.pointer none,.pointer none,.pointer none,.slice none 0 0] 171)) N N none none none none none none none 0 [] []):=zz (fun W hA =>
  have hnw:(W.alloc (.cells #[.int .i64 16,.string ⟨#[]⟩,.string ⟨#[]⟩,.int .i64 0,.bool false,.int .u64 0,.string ⟨#[]⟩,.bool false,.int .u64 0,.pointer none,.pointer none,.pointer none,.slice none 0 0] 171)).heap[W.heap.size]?=some (.cells (smRow 16 Sy.vr0 Sy.nt false 0 none none none (.slice none 0 0)) 171 (0,0)):=heap_alloc_new _ _
  ⟨_,rfl,hA.no ((Keeps.refl _ W).alloc _),⟨hA.k.size,hA.p.ord.2.2.2⟩,Nod.bare (Nat.le_refl _) hnw⟩)
 rcases hsp with ⟨k1,k2,k3⟩ | ⟨k1,k2,k3⟩ | ⟨k1,k2⟩
 · go_wp2_with fail;refine (HPK2.out w5 HA5.out.p).mono ?_;rintro e w6 ⟨rfl,hk⟩;have HA6:=zz (HA5.out.no hk);have HR6:Hid (w6.heap[Q]?=some (.cells #[.int .i64 t.kind,.int .i64 (t.at_:Int),.string t.text,.string t.suf,.int .u64 t.num,.bool t.hex] 83 (0,0))):=zz ((hk.block _ (Array.getElem?_eq_some_iff.1 HR5.out).1 (fun e=>e)).trans HR5.out);clear hk HR5 q0 q2;have q0:w6.cell? ⟨Q,0,none⟩=some (.int .i64 t.kind):=by rw [cell_of_row w6 Q 0 _ _ _ HR6.out]; rfl
   have q2:w6.cell? ⟨Q,2,none⟩=some (.string t.text):=by rw [cell_of_row w6 Q 2 _ _ _ HR6.out]; rfl
   go_upto_region 15 with fail
   obtain ⟨N,hN,ha7,hwn,hno,hhu⟩:=HE.out w6 HA6.out;have HA7:=zz ha7;have HWN:=zz hwn;have HN7:=zz hno;have HH7:=zz (fun (_:σ.code=0)=>hhu);rw [← hN];generalize w6.alloc (.cells #[.int .i64 16,.string ⟨#[]⟩,.string ⟨#[]⟩,.int .i64 0,.bool false,.int .u64 0,.string ⟨#[]⟩,.bool false,.int .u64 0,.pointer none,.pointer none,.pointer none,.slice none 0 0] 171)=w7 at HA7 HN7 HH7 ⊢;clear hN ha7 hwn hno hhu q0 q2;have hne:Nonempty (KS (PE K N) w7):=⟨⟨w7,Keeps.refl _ _⟩⟩;refine Mix.wp_region_mix (fun W'=>∃ u:KS (PE K N) w7,W'=u.W) [] (by kernel_rfl) ?_;have HV0:Hid (Keeps No w7 w7.drew):=zz ((Keeps.refl _ w7).drew);generalize w7.drew=v0 at HV0 ⊢;have HC0:Hid (Keeps (PE K N) w7 v0):=zz (HV0.out.mono (fun _ _ e=>e.elim));have HAV0:=zz (HA7.out.no HV0.out);have HNV0:=zz (HN7.out.no HV0.out);have HHV0:=zz (fun hc=>(HH7.out hc).no HV0.out);refine Mix.mix_seg 0 2 5 (by kernel_rfl) (by kernel_rfl) rfl rfl ⟨⟨v0,HC0.out⟩,rfl⟩ ?_;simp only [zp1,zp2,zp3,zp4]
   repeat (go_big_quiet_step (fail))
   refine wpQuiet_nil ?_;refine Mix.mix_seg 3 2 3 (by kernel_rfl) (by kernel_rfl) rfl rfl ⟨⟨v0,HC0.out⟩,rfl⟩ ?_;simp only [zp1,zp2,zp3,zp4]
   repeat (go_big_quiet_step (fail))
   refine wpQuiet_nil ?_;refine Mix.mix_one 2 2 (by kernel_rfl) rfl rfl ?_;simp only [zp1,zp2,zp3,zp4];go_wp2_with fail;refine (HX.out v0 HAV0.out.p).mono ?_;rintro e' v1 ⟨a1,rfl,hat,hex⟩;have HC1:Hid (Keeps (PE K N) w7 v1):=zz (HC0.out.trans hat.k (fun q _ e=>.inl e));have HAV1:=zz (HAV0.out.trans hat);have HNV1:=zz (HNV0.out.at_ hat HWN.out.2);have HHV1:=zz (fun (hc:φ.code=0)=>(HHV0.out (HCX.out hc)).at_ hat HWN.out.2);have HOV1:Hid (φ.code=0→OpD v1 (Dc N N (.slice none 0 0)) a1 (some x1)):=zz (fun hc=>.some (ExD.mono (hex hc) (fun q _ hd=>by
    have h1:v0.heap.size≤q:=hd;have h2:=HNV0.out.lt;exact ⟨by omega,by omega,fun e=>nomatch e⟩)))
   clear hat hex;go_wp2_with fail;refine ⟨.inr ⟨⟨v1,HC1.out⟩,rfl⟩,?_⟩;refine Mix.mix_one 5 1 (by kernel_rfl) rfl rfl ?_;simp only [zp1,zp2,zp3,zp4];go_wp2_with fail;refine ⟨.inr ⟨⟨v1,HC1.out⟩,rfl⟩,?_⟩;refine Mix.mix_one 6 0 (by kernel_rfl) rfl rfl ?_;simp only [zp1,zp2,zp3,zp4];have y9:v1.cell? ⟨N,9,none⟩=some (.pointer none):=HNV1.out.c (j:=9) rfl;have z9:v1.frozen? ⟨N,9,none⟩=false:=HNV1.out.f 9;go_wp2_with fail;have HA8:=zz (HAV1.out.newR HS.out ((Keeps.refl (fun q=>q=N) v1).setCell (p:=⟨N,9,none⟩) (.inl rfl) (.pointer a1)) HWN.out.1);have HN8:=zz (HNV1.out.set_p0 a1);have HH8:=zz (fun (hc:φ.code=0)=>((HHV1.out hc).put0 (HOV1.out hc)).setc 9 (.pointer a1));have HC2:Hid (Keeps (PE K N) w7 (v1.setCell ⟨N,9,none⟩ (.pointer a1))):=zz (Keeps.setCell (S:=PE K N) HC1.out (.inl (.inr rfl)) _);generalize v1.setCell ⟨N,9,none⟩ (.pointer a1)=w8 at HC2 HA8 HN8 HH8 ⊢;clear y9 z9 hne;refine ⟨.inr ⟨⟨w8,HC2.out⟩,rfl⟩,?_⟩;refine Mix.mix_end (by kernel_rfl) ?_;go_wp2_with fail;refine (HW.out w8 HA8.out.p).mono ?_;rintro e' w9 ⟨rfl,hat⟩;have HA9:=zz (HA8.out.trans hat);have HX9:=zz (fun (hc:ψ.code=0)=>((HN8.out.at_ hat HWN.out.2).fin ((HH8.out (HCW.out hc)).at_ hat HWN.out.2)).mono HWN.out.1);clear hat;go_wp2_with fail;go_returns;rw [HM.out];exact ⟨_,rfl,HA9.out,HX9.out⟩
 · go_upto_region 15 with fail
   obtain ⟨N,hN,ha7,hwn,hno,hhu⟩:=HE.out w5 HA5.out;have HA7:=zz ha7;have HWN:=zz hwn;have HN7:=zz hno;have HH7:=zz (fun (_:σ.code=0)=>hhu);rw [← hN];generalize w5.alloc (.cells #[.int .i64 16,.string ⟨#[]⟩,.string ⟨#[]⟩,.int .i64 0,.bool false,.int .u64 0,.string ⟨#[]⟩,.bool false,.int .u64 0,.pointer none,.pointer none,.pointer none,.slice none 0 0] 171)=w7 at HA7 HN7 HH7 ⊢;clear hN ha7 hwn hno hhu q0 q2;have hne:Nonempty (KS (PE K N) w7):=⟨⟨w7,Keeps.refl _ _⟩⟩;refine Mix.wp_region_mix (fun W'=>∃ u:KS (PE K N) w7,W'=u.W) [] (by kernel_rfl) ?_;have HV0:Hid (Keeps No w7 w7.drew):=zz ((Keeps.refl _ w7).drew);generalize w7.drew=v0 at HV0 ⊢;have HC0:Hid (Keeps (PE K N) w7 v0):=zz (HV0.out.mono (fun _ _ e=>e.elim));have HAV0:=zz (HA7.out.no HV0.out);have HNV0:=zz (HN7.out.no HV0.out);have HHV0:=zz (fun hc=>(HH7.out hc).no HV0.out);refine Mix.mix_seg 0 2 5 (by kernel_rfl) (by kernel_rfl) rfl rfl ⟨⟨v0,HC0.out⟩,rfl⟩ ?_;simp only [zp1,zp2,zp3,zp4]
   repeat (go_big_quiet_step (fail))
   refine wpQuiet_nil ?_;refine Mix.mix_seg 3 2 3 (by kernel_rfl) (by kernel_rfl) rfl rfl ⟨⟨v0,HC0.out⟩,rfl⟩ ?_;simp only [zp1,zp2,zp3,zp4]
   repeat (go_big_quiet_step (fail))
   refine wpQuiet_nil ?_;refine Mix.mix_one 2 2 (by kernel_rfl) rfl rfl ?_;simp only [zp1,zp2,zp3,zp4];go_wp2_with fail;refine (HX.out v0 HAV0.out.p).mono ?_;rintro e' v1 ⟨a1,rfl,hat,hex⟩;have HC1:Hid (Keeps (PE K N) w7 v1):=zz (HC0.out.trans hat.k (fun q _ e=>.inl e));have HAV1:=zz (HAV0.out.trans hat);have HNV1:=zz (HNV0.out.at_ hat HWN.out.2);have HHV1:=zz (fun (hc:φ.code=0)=>(HHV0.out (HCX.out hc)).at_ hat HWN.out.2);have HOV1:Hid (φ.code=0→OpD v1 (Dc N N (.slice none 0 0)) a1 (some x1)):=zz (fun hc=>.some (ExD.mono (hex hc) (fun q _ hd=>by
    have h1:v0.heap.size≤q:=hd;have h2:=HNV0.out.lt;exact ⟨by omega,by omega,fun e=>nomatch e⟩)))
   clear hat hex;go_wp2_with fail;refine ⟨.inr ⟨⟨v1,HC1.out⟩,rfl⟩,?_⟩;refine Mix.mix_one 5 1 (by kernel_rfl) rfl rfl ?_;simp only [zp1,zp2,zp3,zp4];go_wp2_with fail;refine ⟨.inr ⟨⟨v1,HC1.out⟩,rfl⟩,?_⟩;refine Mix.mix_one 6 0 (by kernel_rfl) rfl rfl ?_;simp only [zp1,zp2,zp3,zp4];have y9:v1.cell? ⟨N,9,none⟩=some (.pointer none):=HNV1.out.c (j:=9) rfl;have z9:v1.frozen? ⟨N,9,none⟩=false:=HNV1.out.f 9;go_wp2_with fail;have HA8:=zz (HAV1.out.newR HS.out ((Keeps.refl (fun q=>q=N) v1).setCell (p:=⟨N,9,none⟩) (.inl rfl) (.pointer a1)) HWN.out.1);have HN8:=zz (HNV1.out.set_p0 a1);have HH8:=zz (fun (hc:φ.code=0)=>((HHV1.out hc).put0 (HOV1.out hc)).setc 9 (.pointer a1));have HC2:Hid (Keeps (PE K N) w7 (v1.setCell ⟨N,9,none⟩ (.pointer a1))):=zz (Keeps.setCell (S:=PE K N) HC1.out (.inl (.inr rfl)) _);generalize v1.setCell ⟨N,9,none⟩ (.pointer a1)=w8 at HC2 HA8 HN8 HH8 ⊢;clear y9 z9 hne;refine ⟨.inr ⟨⟨w8,HC2.out⟩,rfl⟩,?_⟩;refine Mix.mix_end (by kernel_rfl) ?_;go_wp2_with fail;refine (HW.out w8 HA8.out.p).mono ?_;rintro e' w9 ⟨rfl,hat⟩;have HA9:=zz (HA8.out.trans hat);have HX9:=zz (fun (hc:ψ.code=0)=>((HN8.out.at_ hat HWN.out.2).fin ((HH8.out (HCW.out hc)).at_ hat HWN.out.2)).mono HWN.out.1);clear hat;go_wp2_with fail;go_returns;rw [HM.out];exact ⟨_,rfl,HA9.out,HX9.out⟩
 · go_upto_region 15 with fail
   obtain ⟨N,hN,ha7,hwn,hno,hhu⟩:=HE.out w5 HA5.out;have HA7:=zz ha7;have HWN:=zz hwn;have HN7:=zz hno;have HH7:=zz (fun (_:σ.code=0)=>hhu);rw [← hN];generalize w5.alloc (.cells #[.int .i64 16,.string ⟨#[]⟩,.string ⟨#[]⟩,.int .i64 0,.bool false,.int .u64 0,.string ⟨#[]⟩,.bool false,.int .u64 0,.pointer none,.pointer none,.pointer none,.slice none 0 0] 171)=w7 at HA7 HN7 HH7 ⊢;clear hN ha7 hwn hno hhu q0 q2;have hne:Nonempty (KS (PE K N) w7):=⟨⟨w7,Keeps.refl _ _⟩⟩;refine Mix.wp_region_mix (fun W'=>∃ u:KS (PE K N) w7,W'=u.W) [] (by kernel_rfl) ?_;have HV0:Hid (Keeps No w7 w7.drew):=zz ((Keeps.refl _ w7).drew);generalize w7.drew=v0 at HV0 ⊢;have HC0:Hid (Keeps (PE K N) w7 v0):=zz (HV0.out.mono (fun _ _ e=>e.elim));have HAV0:=zz (HA7.out.no HV0.out);have HNV0:=zz (HN7.out.no HV0.out);have HHV0:=zz (fun hc=>(HH7.out hc).no HV0.out);refine Mix.mix_seg 0 2 5 (by kernel_rfl) (by kernel_rfl) rfl rfl ⟨⟨v0,HC0.out⟩,rfl⟩ ?_;simp only [zp1,zp2,zp3,zp4]
   repeat (go_big_quiet_step (fail))
   refine wpQuiet_nil ?_;refine Mix.mix_seg 3 2 3 (by kernel_rfl) (by kernel_rfl) rfl rfl ⟨⟨v0,HC0.out⟩,rfl⟩ ?_;simp only [zp1,zp2,zp3,zp4]
   repeat (go_big_quiet_step (fail))
   refine wpQuiet_nil ?_;refine Mix.mix_one 2 2 (by kernel_rfl) rfl rfl ?_;simp only [zp1,zp2,zp3,zp4];go_wp2_with fail;refine (HX.out v0 HAV0.out.p).mono ?_;rintro e' v1 ⟨a1,rfl,hat,hex⟩;have HC1:Hid (Keeps (PE K N) w7 v1):=zz (HC0.out.trans hat.k (fun q _ e=>.inl e));have HAV1:=zz (HAV0.out.trans hat);have HNV1:=zz (HNV0.out.at_ hat HWN.out.2);have HHV1:=zz (fun (hc:φ.code=0)=>(HHV0.out (HCX.out hc)).at_ hat HWN.out.2);have HOV1:Hid (φ.code=0→OpD v1 (Dc N N (.slice none 0 0)) a1 (some x1)):=zz (fun hc=>.some (ExD.mono (hex hc) (fun q _ hd=>by
    have h1:v0.heap.size≤q:=hd;have h2:=HNV0.out.lt;exact ⟨by omega,by omega,fun e=>nomatch e⟩)))
   clear hat hex;go_wp2_with fail;refine ⟨.inr ⟨⟨v1,HC1.out⟩,rfl⟩,?_⟩;refine Mix.mix_one 5 1 (by kernel_rfl) rfl rfl ?_;simp only [zp1,zp2,zp3,zp4];go_wp2_with fail;refine ⟨.inr ⟨⟨v1,HC1.out⟩,rfl⟩,?_⟩;refine Mix.mix_one 6 0 (by kernel_rfl) rfl rfl ?_;simp only [zp1,zp2,zp3,zp4];have y9:v1.cell? ⟨N,9,none⟩=some (.pointer none):=HNV1.out.c (j:=9) rfl;have z9:v1.frozen? ⟨N,9,none⟩=false:=HNV1.out.f 9;go_wp2_with fail;have HA8:=zz (HAV1.out.newR HS.out ((Keeps.refl (fun q=>q=N) v1).setCell (p:=⟨N,9,none⟩) (.inl rfl) (.pointer a1)) HWN.out.1);have HN8:=zz (HNV1.out.set_p0 a1);have HH8:=zz (fun (hc:φ.code=0)=>((HHV1.out hc).put0 (HOV1.out hc)).setc 9 (.pointer a1));have HC2:Hid (Keeps (PE K N) w7 (v1.setCell ⟨N,9,none⟩ (.pointer a1))):=zz (Keeps.setCell (S:=PE K N) HC1.out (.inl (.inr rfl)) _);generalize v1.setCell ⟨N,9,none⟩ (.pointer a1)=w8 at HC2 HA8 HN8 HH8 ⊢;clear y9 z9 hne;refine ⟨.inr ⟨⟨w8,HC2.out⟩,rfl⟩,?_⟩;refine Mix.mix_end (by kernel_rfl) ?_;go_wp2_with fail;refine (HW.out w8 HA8.out.p).mono ?_;rintro e' w9 ⟨rfl,hat⟩;have HA9:=zz (HA8.out.trans hat);have HX9:=zz (fun (hc:ψ.code=0)=>((HN8.out.at_ hat HWN.out.2).fin ((HH8.out (HCW.out hc)).at_ hat HWN.out.2)).mono HWN.out.1);clear hat;go_wp2_with fail;go_returns;rw [HM.out];exact ⟨_,rfl,HA9.out,HX9.out⟩
theorem stmt_step (K:Pk) (f:Nat) (ih:∀ g,g < f→AllS K g):StmtC K f:=by
 intro σ w h hf;obtain ⟨f,rfl⟩:∃ g,f=g+1:=⟨f - 1,by omega⟩;have ih2:∀ g,g≤f→AllS K g:=fun g hg=>ih g (by omega)
 by_cases h1:Sy.isM K.C σ ⟨#[123]⟩=true
 · exact st_block K f ih2 σ w h hf h1
 rw [Bool.not_eq_true] at h1;by_cases h2:Sy.isM K.C σ ⟨#[59]⟩=true
 · exact st_skip K f ih2 σ w h hf h1 h2
 rw [Bool.not_eq_true] at h2;by_cases h3:Sy.typedM K.C σ=true
 · exact st_let K f ih2 σ w h hf h1 h2 h3
 rw [Bool.not_eq_true] at h3;by_cases h4:(Sy.peekM K.C σ 0).kind=1∧((Sy.peekM K.C σ 1).text==⟨#[58]⟩)=true
 · exact st_label K f ih2 σ w h hf h1 h2 h3 h4.1 h4.2
 by_cases h5:(Sy.peekM K.C σ 0).kind=2∧¬ Sy.isM K.C σ ⟨#[115,105,122,101,111,102]⟩=true
 · exact st_word K f ih2 σ w h hf h1 h2 h3 h5.1 (by have:=h5.2; rwa [Bool.not_eq_true] at this)
 exact st_expr K f ih2 σ w h hf h1 h2 h3 h4 h5
theorem alls_upto (K:Pk):∀ f g,g≤f→AllS K g
 | 0,g,hg=>by
   have h:∀ q,q < g→AllS K q:=fun q hq=>absurd hq (by omega)
   exact ⟨stmt_step K g h,block_step K g h⟩
 | f+1,g,hg=>by
   have h:∀ q,q < g→AllS K q:=fun q hq=>alls_upto K f q (by omega)
   exact ⟨stmt_step K g h,block_step K g h⟩
theorem blockM_any (K:Pk) (σ:Sy.St) (w:World) (h:PS w K σ):Calls Tryz.prog 95 #[.pointer (some ⟨K.P,0,none⟩)] w (SmPost w K (Sy.blockM K.C σ)) :=
 (alls_upto K _ _ (Nat.le_refl _)).block σ w h (by show 10 * (K.C.T.length - σ.at_)+5≤10 * (K.C.T.length - σ.at_)+8; omega)
def vrVals (v:Sy.Vr):List Value:=[.string v.name,.string v.ty.base,.int .i64 v.ty.stars,.bool v.arr,.int .u64 v.num]
def tyVals (t:Sy.Ty):List Value:=[.string t.base,.int .i64 t.stars]
theorem vr_len (l:List Sy.Vr):(l.flatMap vrVals).length=l.length * 5:=by
 induction l with
 | nil=>rfl
 | cons v t ih=>simp only [List.flatMap_cons,List.length_append,ih,List.length_cons]; show 5+_=_; omega
theorem ty_len (l:List Sy.Ty):(l.flatMap tyVals).length=l.length * 2:=by
 induction l with
 | nil=>rfl
 | cons v t ih=>simp only [List.flatMap_cons,List.length_append,ih,List.length_cons]; show 2+_=_; omega
def itRow (kind at_:Int) (v:Sy.Vr) (vars types:Value) (pb pi:Option Addr) (list:Value) (listed:Bool):Array Value :=
 #[.int .i64 kind,.int .i64 at_,.string v.name,.string v.ty.base,.int .i64 v.ty.stars,.bool v.arr,.int .u64 v.num,vars,types,.pointer pb,.pointer pi,list,.bool listed]
inductive OsD (w:World) (D:Nat→Prop):Option Addr→Option Sy.Sm→Prop
 | none:OsD w D none none
 | some {a:Option Addr} {e:Sy.Sm} (h:SmD w D a e):OsD w D a (some e)
theorem OsD.keep {S D:Nat→Prop} {w w':World} {a:Option Addr} {e:Option Sy.Sm} (h:OsD w D a e) (hk:Keeps S w w') (hS:∀ q,S q→¬ D q∨w.heap.size≤q):OsD w' D a e:=by
 cases h with
 | none=>exact .none
 | some h=>exact .some (h.keep hk hS)
theorem OsD.mono {D D':Nat→Prop} {w:World} {a:Option Addr} {e:Option Sy.Sm} (h:OsD w D a e) (hD:∀ q,q < w.heap.size→D q→D' q):OsD w D' a e:=by
 cases h with
 | none=>exact .none
 | some h=>exact .some (h.mono hD)
structure RwD (w:World) (D:Nat→Prop) (e:TypeId) (z:Nat) (v:Value) (n:Nat) (xs:List Value):Prop where
 own:w.ownsRow 0 e z v n xs
 d:∀ q,v.ownBlock=some q→D q
theorem RwD.keep {S D:Nat→Prop} {w w':World} {e:TypeId} {z n:Nat} {v:Value} {xs:List Value} (h:RwD w D e z v n xs) (hk:Keeps S w w') (hS:∀ q,S q→¬ D q∨w.heap.size≤q):RwD w' D e z v n xs :=
 ⟨own_kept h.own (fun q hq=>hk.block q (own_ltb h.own hq) (fun e=>by
     have h2:=own_ltb h.own hq;rcases hS q e with k | k; exact k (h.d q hq); omega)),h.d⟩
theorem RwD.mono {D D':Nat→Prop} {w:World} {e:TypeId} {z n:Nat} {v:Value} {xs:List Value} (h:RwD w D e z v n xs) (hD:∀ q,q < w.heap.size→D q→D' q):RwD w D' e z v n xs :=
 ⟨h.own,fun q hq=>hD q (own_ltb h.own hq) (h.d q hq)⟩
theorem RwD.nil (w:World) (D:Nat→Prop) (e:TypeId) (z c:Nat):RwD w D e z (.slice none 0 0) 0 []:=⟨World.ownsRow_nil _ _ _ _,fun q hq=>(nomatch hq)⟩
theorem RwD.of {w:World} {B:Nat} {e:TypeId} {z n:Nat} {v:Value} {xs:List Value} (h:w.ownsRow B e z v n xs):RwD w (fun q=>B≤q) e z v n xs:=⟨own_mono h (Nat.zero_le _),fun q hq=>own_lo h q hq⟩
inductive ItD (w:World) (D:Nat→Prop):Option Addr→Sy.It→Prop
 | mk (N:Nat) (va:Option Addr) (vc:Nat) (ta:Option Addr) (tc:Nat) (pb pi:Option Addr) (la:Option Addr) (lc:Nat) (av:List (Option Addr)) (i:Sy.It)
   (hD:D N) (hrow:w.heap[N]?=some (.cells (itRow i.kind i.at_ i.v (.slice va i.vars.length vc) (.slice ta i.types.length tc) pb pi (.slice la av.length lc) i.listed) 97 (0,0)))
   (hv:RwD w D 58 5 (.slice va i.vars.length vc) i.vars.length (i.vars.flatMap vrVals))
   (ht:RwD w D 56 2 (.slice ta i.types.length tc) i.types.length (i.types.flatMap tyVals))
   (hl:RwD w D 94 1 (.slice la av.length lc) av.length (ptrs av)) (hlen:av.length=i.list.length)
   (hsub:∀ (k:Nat) (a:Option Addr) (e:Sy.Ex),av[k]?=some a→i.list[k]?=some e→ExD w D a e)
   (hb:OsD w D pb i.body) (hi:OpD w D pi i.init):ItD w D (some ⟨N,0,none⟩) i
theorem ItD.keep {S D:Nat→Prop} {w w':World} {a:Option Addr} {i:Sy.It} (h:ItD w D a i) (hk:Keeps S w w') (hS:∀ q,S q→¬ D q∨w.heap.size≤q):ItD w' D a i:=by
 cases h with
 | mk N va vc ta tc pb pi la lc av i hD hrow hv ht hl hlen hsub hb hi =>
   have hg:=(Array.getElem?_eq_some_iff.1 hrow).1;exact .mk N va vc ta tc pb pi la lc av i hD ((hk.block N hg (fun e=>by rcases hS N e with h | h; exact h hD; omega)).trans hrow) (hv.keep hk hS) (ht.keep hk hS) (hl.keep hk hS) hlen (fun k a e h1 h2=>(hsub k a e h1 h2).keep hk hS) (hb.keep hk hS) (hi.keep hk hS)
theorem ItD.mono {D D':Nat→Prop} {w:World} {a:Option Addr} {i:Sy.It} (h:ItD w D a i) (hD:∀ q,q < w.heap.size→D q→D' q):ItD w D' a i:=by
 cases h with
 | mk N va vc ta tc pb pi la lc av i h1 hrow hv ht hl hlen hsub hb hi =>
   exact .mk N va vc ta tc pb pi la lc av i (hD _ (Array.getElem?_eq_some_iff.1 hrow).1 h1) hrow (hv.mono hD) (ht.mono hD) (hl.mono hD) hlen (fun k a e h1 h2=>(hsub k a e h1 h2).mono hD) (hb.mono hD) (hi.mono hD)
def ItAt (w:World) (B:Nat) (a:Option Addr) (i:Sy.It):Prop:=ItD w (fun q=>B≤q) a i
theorem ItAt.keep {S:Nat→Prop} {w w':World} {B:Nat} {a:Option Addr} {i:Sy.It} (h:ItAt w B a i) (hk:Keeps S w w') (hS:∀ q,S q→q < B∨w.heap.size≤q):ItAt w' B a i :=
 ItD.keep h hk (fun q e=>by rcases hS q e with h | h; exact .inl (fun h2=>by have h3:B≤q:=h2; omega); exact .inr h)
theorem ItAt.no {w w':World} {B:Nat} {a:Option Addr} {i:Sy.It} (h:ItAt w B a i) (hk:Keeps No w w'):ItAt w' B a i:=h.keep hk (fun _ e=>e.elim)
theorem ItAt.at_ {w w':World} {K:Pk} {τ:Sy.St} {B:Nat} {a:Option Addr} {i:Sy.It} (h:ItAt w B a i) (hk:At w w' K τ) (hB:K.B≤B):ItAt w' B a i:=h.keep hk.k (fun q e=>.inl (by
 have h2:q=K.P:=e;have:=hk.p.ord; omega))
theorem ItAt.mono {w:World} {B B':Nat} {a:Option Addr} {i:Sy.It} (h:ItAt w B a i) (hB:B'≤B):ItAt w B' a i:=ItD.mono h (fun q _ h2=>Nat.le_trans hB h2)
theorem infoVr:(Tryz.prog.info? 58).map (fun i=>(i.zero,i.size,i.bytes))=some (some (.agg #[.string ⟨#[]⟩,.string ⟨#[]⟩,.int .i64 0,.bool false,.int .u64 0]),5,56):=by kernel_rfl
theorem infoTyp:(Tryz.prog.info? 56).map (fun i=>(i.zero,i.size,i.bytes))=some (some (.agg #[.string ⟨#[]⟩,.int .i64 0]),2,24):=by kernel_rfl
theorem vr_one (v:Sy.Vr):∀ u∈vrVals v,u.oneCell'=true:=by
 intro u hu;unfold vrVals at hu;simp only [List.mem_cons,List.not_mem_nil,or_false] at hu;rcases hu with rfl | rfl | rfl | rfl | rfl <;> rfl
theorem ty_one (v:Sy.Ty):∀ u∈tyVals v,u.oneCell'=true:=by
 intro u hu;unfold tyVals at hu;simp only [List.mem_cons,List.not_mem_nil,or_false] at hu;rcases hu with rfl | rfl <;> rfl
theorem wpList_appV (w:World) {ops:Array Oper} {rest:List Oper} {o:Oper} {a:Act} {Q:Exit→Act→World→Prop} (hgd:o.guard=none) (s x:Operand) (t:TypeId)
    (ho:o.op=.call { callee:=.builtin .append,args:=#[s,x],argTypes:=#[t,t] }) (ht:Tryz.prog.underlying t=some (.slice 58))
    (B:Nat) (v:Value) (n:Nat) (l1:List Sy.Vr) (y:Sy.Vr) (q:Nat) (hs:a.eval s=v) (hown:w.ownsRow B 58 5 v n (l1.flatMap vrVals)) (hx:a.eval x=.slice (some ⟨q,0,none⟩) 1 1) (hq:w.heap[q]?=some (.cells (vrVals y).toArray 58 (0,0)))
    (hn:n≤999999) (hB:B≤w.heap.size)
    (h:∀ g' cap w',w'.ownsRow B 58 5 (.slice (some ⟨g',0,none⟩) (n+1) cap) (n+1) ((l1++[y]).flatMap vrVals)→w.grownBy w' v.ownBlock→(v.ownBlock=some g'∨w.heap.size≤g')→wpList Tryz.prog ops Q rest (a.put o.dst (.slice (some ⟨g',0,none⟩) (n+1) cap)) w'):wpList Tryz.prog ops Q (o::rest) a w:=by
 obtain ⟨i0,hi,hz0,hz1,hz2⟩:=info_parts infoVr;refine wpList_append_lies w hgd s x t ho B 58 i0 _ 5 56 ht hi hz0 hz1 hz2 rfl (by decide) v n _ hs hown ⟨q,0,none⟩ 1 1 (vrVals y) hx rfl (fun j u hu=>?_) (vr_one y) (by decide) (by unfold maxLen; omega) (by omega) hB _ rfl (fun g' cap w' k1 k2 k3 _=>h g' cap w' (by rw [List.flatMap_append]; simpa using k1) k2 (k3.imp id (fun e=>by omega)));have e:(⟨q,0,none⟩:Addr).add j=⟨q,0+j,none⟩:=by unfold Addr.add; split <;> simp_all
 rw [e,Nat.zero_add,cell_of_row w q _ _ _ _ hq,List.getElem?_toArray];exact hu
theorem wpList_appT (w:World) {ops:Array Oper} {rest:List Oper} {o:Oper} {a:Act} {Q:Exit→Act→World→Prop} (hgd:o.guard=none) (s x:Operand) (t:TypeId)
    (ho:o.op=.call { callee:=.builtin .append,args:=#[s,x],argTypes:=#[t,t] }) (ht:Tryz.prog.underlying t=some (.slice 56))
    (B:Nat) (v:Value) (n:Nat) (l1:List Sy.Ty) (y:Sy.Ty) (q:Nat) (hs:a.eval s=v) (hown:w.ownsRow B 56 2 v n (l1.flatMap tyVals)) (hx:a.eval x=.slice (some ⟨q,0,none⟩) 1 1) (hq:w.heap[q]?=some (.cells (tyVals y).toArray 56 (0,0)))
    (hn:n≤999999) (hB:B≤w.heap.size)
    (h:∀ g' cap w',w'.ownsRow B 56 2 (.slice (some ⟨g',0,none⟩) (n+1) cap) (n+1) ((l1++[y]).flatMap tyVals)→w.grownBy w' v.ownBlock→(v.ownBlock=some g'∨w.heap.size≤g')→wpList Tryz.prog ops Q rest (a.put o.dst (.slice (some ⟨g',0,none⟩) (n+1) cap)) w'):wpList Tryz.prog ops Q (o::rest) a w:=by
 obtain ⟨i0,hi,hz0,hz1,hz2⟩:=info_parts infoTyp;refine wpList_append_lies w hgd s x t ho B 56 i0 _ 2 24 ht hi hz0 hz1 hz2 rfl (by decide) v n _ hs hown ⟨q,0,none⟩ 1 1 (tyVals y) hx rfl (fun j u hu=>?_) (ty_one y) (by decide) (by unfold maxLen; omega) (by omega) hB _ rfl (fun g' cap w' k1 k2 k3 _=>h g' cap w' (by rw [List.flatMap_append]; simpa using k1) k2 (k3.imp id (fun e=>by omega)));have e:(⟨q,0,none⟩:Addr).add j=⟨q,0+j,none⟩:=by unfold Addr.add; split <;> simp_all
 rw [e,Nat.zero_add,cell_of_row w q _ _ _ _ hq,List.getElem?_toArray];exact hu
abbrev KPM (K:Pk):Nat→Prop:=fun q=>q=K.P∨q=K.MB
structure AtI (w w':World) (K:Pk) (τ:Sy.St):Prop where
 p:PS w' K τ
 k:Keeps (KPM K) w w'
theorem At.toI {w w':World} {K:Pk} {τ:Sy.St} (h:At w w' K τ):AtI w w' K τ:=⟨h.p,h.k.mono (fun _ _ e=>.inl e)⟩
theorem AtI.trans {a b c:World} {K:Pk} {σ τ:Sy.St} (h:AtI a b K σ) (g:AtI b c K τ):AtI a c K τ:=⟨g.p,h.k.trans g.k (fun _ _ e=>e)⟩
theorem AtI.no {a b c:World} {K:Pk} {σ:Sy.St} (h:AtI a b K σ) (hk:Keeps No b c):AtI a c K σ:=⟨h.p.no hk,h.k.trans hk (fun _ _ e=>e.elim)⟩
theorem ItAt.atI {w w':World} {K:Pk} {τ:Sy.St} {B:Nat} {a:Option Addr} {i:Sy.It} (h:ItAt w B a i) (hk:AtI w w' K τ) (hB:K.B≤B):ItAt w' B a i:=h.keep hk.k (fun q e=>.inl (by
 have:=hk.p.ord;rcases e with e | e <;> omega))
abbrev nil:Value:=.slice none 0 0
structure IM (w:World) (N:Nat) (r:Array Value) (e:TypeId) (z:Nat) (v:Value) (n:Nat) (xs:List Value):Prop where
 row:w.heap[N]?=some (.cells r 97 (0,0))
 own:w.ownsRow N e z v n xs
 ne:∀ q,v.ownBlock=some q→q≠N
section
variable {w w' v2 v3:World} {K:Pk} {τ:Sy.St} {N:Nat} {r r':Array Value} {e:TypeId} {z:Nat} {v:Value} {n:Nat} {xs xs':List Value}
theorem IM.lt (h:IM w N r e z v n xs):N < w.heap.size:=(Array.getElem?_eq_some_iff.1 h.row).1
theorem IM.at_ (h:IM w N r e z v n xs) (hk:At w w' K τ) (hB:K.B≤N):IM w' N r e z v n xs :=
 ⟨(hk.k.block _ h.lt (fun e=>by have e2:N=K.P:=e; have:=hk.p.ord; omega)).trans h.row,own_kept h.own (fun q hq=>hk.k.block q (own_ltb h.own hq) (fun e=>by have e2:q=K.P:=e; have:=hk.p.ord; have:=own_lo h.own q hq; omega)),h.ne⟩
theorem IM.no (h:IM w N r e z v n xs) (hk:Keeps No w w'):IM w' N r e z v n xs :=
 ⟨(hk.block _ h.lt (fun e=>e)).trans h.row,own_kept h.own (fun q hq=>hk.block q (own_ltb h.own hq) (fun e=>e)),h.ne⟩
theorem IM.newR (h:IM w N r e z v n xs) {R:Nat} (hk:Keeps (fun q=>q=R) w w') (hN:R≠N) (hR:v.ownBlock≠some R):IM w' N r e z v n xs :=
 ⟨(hk.block _ h.lt (fun e=>hN e.symm)).trans h.row,own_kept h.own (fun q hq=>hk.block q (own_ltb h.own hq) (fun e=>by have e2:q=R:=e; subst e2; exact hR hq)),h.ne⟩
theorem IM.setc (h:IM w N r e z v n xs) (j:Nat) (x:Value) (hr:r.setIfInBounds j x=r'):IM (w.setCell ⟨N,j,none⟩ x) N r' e z v n xs :=
 ⟨by rw [heap_setCell_same w N j _ _ _ h.row,hr],own_kept h.own (fun q hq=>Below.heap_setCell _ _ _ _ (fun e=>h.ne q hq (by simpa using e))),h.ne⟩
theorem IM.c (h:IM w N r e z v n xs) {j:Nat} {x:Value} (hj:r[j]?=some x):w.cell? ⟨N,j,none⟩=some x:=by rw [cell_of_row w N j _ _ _ h.row]; exact hj
theorem IM.f (h:IM w N r e z v n xs) (j:Nat):w.frozen? ⟨N,j,none⟩=false:=frozen_of_row w N j _ _ h.row
theorem IM.bare (hr:w.heap[N]?=some (.cells r 97 (0,0))):IM w N r e z nil 0 []:=⟨hr,World.ownsRow_nil _ _ _ _,fun q hq=>nomatch hq⟩
theorem IM.push {sa:Option Addr} {sc g' cap n':Nat} (h:IM v2 N r e z (.slice sa n sc) n xs) (hk:Keeps (fun q=>(Value.slice sa n sc).ownBlock=some q) v2 v3)
    (ho:v3.ownsRow N e z (.slice (some ⟨g',0,none⟩) n' cap) n' xs') (hg:(Value.slice sa n sc).ownBlock=some g'∨v2.heap.size≤g') (j:Nat) (hr:r.setIfInBounds j (.slice (some ⟨g',0,none⟩) n' cap)=r') :
    IM (v3.setCell ⟨N,j,none⟩ (.slice (some ⟨g',0,none⟩) n' cap)) N r' e z (.slice (some ⟨g',0,none⟩) n' cap) n' xs':=by
 have hn:∀ q,(Value.slice (some ⟨g',0,none⟩) n' cap).ownBlock=some q→q≠N:=fun q hq e=>by
  have e1:g'=q:=by injection hq
  rcases hg with hg | hg
  · exact h.ne g' hg (by omega)
  · have:=h.lt; omega
 have hN3:v3.heap[N]?=some (.cells r 97 (0,0)):=(hk.block _ h.lt (fun e=>h.ne N e rfl)).trans h.row;exact ⟨by rw [heap_setCell_same v3 N j _ _ _ hN3,hr],own_kept ho (fun q hq=>Below.heap_setCell _ _ _ _ (fun e=>hn q hq (by simpa using e))),hn⟩
end
structure LH (w:World) (N:Nat) (la:Option Addr) (lc n:Nat) (av:List (Option Addr)) (es:List Sy.Ex):Prop where
 nn:n=av.length
 len:av.length=es.length
 sub:∀ (i:Nat) (a:Option Addr) (e:Sy.Ex),av[i]?=some a→es[i]?=some e→ExD w (Dc N N (.slice la n lc)) a e
section
variable {w w' v2 v3:World} {K:Pk} {τ:Sy.St} {N:Nat} {la:Option Addr} {lc n:Nat} {av:List (Option Addr)} {es:List Sy.Ex}
theorem LH.bare:LH w N none 0 0 [] []:=⟨rfl,rfl,fun i a s ha=>by cases ha⟩
theorem LH.at_ (h:LH w N la lc n av es) (hk:At w w' K τ) (hB:K.B≤N):LH w' N la lc n av es :=
 ⟨h.nn,h.len,fun i a e ha he=>(h.sub i a e ha he).keep hk.k (fun q e2=>.inl (fun h2=>by have e3:q=K.P:=e2; have:=hk.p.ord; have:=h2.1; omega))⟩
theorem LH.no (h:LH w N la lc n av es) (hk:Keeps No w w'):LH w' N la lc n av es:=⟨h.nn,h.len,fun i a e ha he=>(h.sub i a e ha he).keep hk (fun q e=>e.elim)⟩
theorem LH.push {g' cap:Nat} {a2:Option Addr} {s2:Sy.Ex} (h:LH v2 N la lc n av es) (hk:Keeps (fun q=>(Value.slice la n lc).ownBlock=some q) v2 v3)
    (hg:(Value.slice la n lc).ownBlock=some g'∨v2.heap.size≤g') (h2:ExD v2 (Dc N N (.slice la n lc)) a2 s2) (j:Nat) :
    LH (v3.setCell ⟨N,j,none⟩ (.slice (some ⟨g',0,none⟩) (n+1) cap)) N (some ⟨g',0,none⟩) cap (n+1) (av++[a2]) (es++[s2]):=by
 have l1:∀ q,q < v2.heap.size→Dc N N (.slice la n lc) q→Dc N N (.slice la n lc) q∧q≠g':=fun q hq hd=>⟨hd,fun e=>by
     rcases hg with hg | hg
     · exact hd.2.2 (by rw [e]; exact hg)
     · omega⟩
 have l2:∀ q,(Value.slice la n lc).ownBlock=some q→¬ (Dc N N (.slice la n lc) q∧q≠g')∨v2.heap.size≤q:=fun q e=>.inl (fun hd=>hd.1.2.2 e)
 have hs:=(Keeps.refl (fun q=>q=N) v3).setCell (p:=⟨N,j,none⟩) (.inl rfl) (.slice (some ⟨g',0,none⟩) (n+1) cap);have l3:∀ q,q=N→¬ (Dc N N (.slice la n lc) q∧q≠g')∨v3.heap.size≤q:=fun q e=>.inl (fun hd=>hd.1.2.1 e)
 have l4:∀ q,Dc N N (.slice la n lc) q∧q≠g'→Dc N N (.slice (some ⟨g',0,none⟩) (n+1) cap) q:=fun q hd=>⟨hd.1.1,hd.1.2.1,fun e=>by
     have e1:g'=q:=by injection e
     exact hd.2 e1.symm⟩
 have oneS:∀ a e,ExD v2 (Dc N N (.slice la n lc)) a e→ExD (v3.setCell ⟨N,j,none⟩ (.slice (some ⟨g',0,none⟩) (n+1) cap)) (Dc N N (.slice (some ⟨g',0,none⟩) (n+1) cap)) a e:=fun a e hx =>
  (((hx.mono l1).keep hk l2).keep hs l3).mono (fun q _ hd=>l4 q hd)
 refine ⟨by rw [List.length_append,← h.nn]; rfl,by rw [List.length_append,List.length_append,h.len]; rfl,fun i a e ha he=>?_⟩;by_cases hi:i < av.length
 · rw [List.getElem?_append_left hi] at ha;rw [List.getElem?_append_left (by rw [← h.len]; exact hi)] at he;exact oneS a e (h.sub i a e ha he)
 · rw [List.getElem?_append_right (by omega)] at ha;rw [List.getElem?_append_right (by rw [← h.len]; omega),← h.len] at he;cases hj:i - av.length with
   | zero =>
     rw [hj] at ha he;obtain rfl:a2=a:=by simpa using ha
     obtain rfl:s2=e:=by simpa using he
     exact oneS _ _ h2
   | succ j=>rw [hj] at ha; cases ha
end
theorem own_slice {w:World} {B:Nat} {e:TypeId} {z n n':Nat} {sa:Option Addr} {sc:Nat} {xs:List Value} (h:w.ownsRow B e z (.slice sa n sc) n xs):RwD w (fun q=>B≤q) e z (.slice sa n sc) n xs:=RwD.of h
section
variable {w:World} {N:Nat} {kind at_:Int} {v:Sy.Vr} {a pb pi:Option Addr} {c n:Nat} {ls:Bool}
theorem IM.fin_vars {vs:List Sy.Vr} {body:Option Sy.Sm} (h:IM w N (itRow kind at_ v (.slice a n c) nil pb none nil false) 58 5 (.slice a n c) n (vs.flatMap vrVals)) (hn:n=vs.length) (hb:OsD w (fun q=>N≤q) pb body) :
    ItAt w N (some ⟨N,0,none⟩) ⟨kind,at_,v,vs,[],body,none,[],false⟩:=by
 subst hn;exact .mk N a c none 0 pb none none 0 [] ⟨kind,at_,v,vs,[],body,none,[],false⟩ (Nat.le_refl N) h.row (RwD.of h.own) (RwD.nil _ _ _ _ 0) (RwD.nil _ _ _ _ 0) rfl (fun k a e h=>by cases h) hb .none
theorem IM.fin_types {vs:List Sy.Ty} (h:IM w N (itRow kind at_ v nil (.slice a n c) none none nil false) 56 2 (.slice a n c) n (vs.flatMap tyVals)) (hn:n=vs.length) :
    ItAt w N (some ⟨N,0,none⟩) ⟨kind,at_,v,[],vs,none,none,[],false⟩:=by
 subst hn;exact .mk N none 0 a c none none none 0 [] ⟨kind,at_,v,[],vs,none,none,[],false⟩ (Nat.le_refl N) h.row (RwD.nil _ _ _ _ 0) (RwD.of h.own) (RwD.nil _ _ _ _ 0) rfl (fun k a e h=>by cases h) .none .none
theorem IM.fin_list {av:List (Option Addr)} {es:List Sy.Ex} (h:IM w N (itRow kind at_ v nil nil none none (.slice a n c) ls) 94 1 (.slice a n c) n (ptrs av)) (hh:LH w N a c n av es) :
    ItAt w N (some ⟨N,0,none⟩) ⟨kind,at_,v,[],[],none,none,es,ls⟩:=by
 obtain rfl:=hh.nn;exact .mk N none 0 none 0 none none a c av ⟨kind,at_,v,[],[],none,none,es,ls⟩ (Nat.le_refl N) h.row (RwD.nil _ _ _ _ 0) (RwD.nil _ _ _ _ 0) (RwD.of h.own) hh.len (fun k a e h1 h2=>(hh.sub k a e h1 h2).mono (fun q _ hd=>hd.1)) .none .none
theorem IM.fin_init {e:TypeId} {z:Nat} {xs:List Value} {init:Option Sy.Ex} (h:IM w N (itRow kind at_ v nil nil none pi nil false) e z nil 0 xs) (hi:OpD w (fun q=>N≤q) pi init) :
    ItAt w N (some ⟨N,0,none⟩) ⟨kind,at_,v,[],[],none,init,[],false⟩ :=
 .mk N none 0 none 0 none pi none 0 [] ⟨kind,at_,v,[],[],none,init,[],false⟩ (Nat.le_refl N) h.row (RwD.nil _ _ _ _ 0) (RwD.nil _ _ _ _ 0) (RwD.nil _ _ _ _ 0) rfl (fun k a e h=>by cases h) .none hi
end
def FillI (K:Pk) (w wc:World) (N:Nat) (fn:Nat) (r:Sy.It × Sy.St):Prop :=
 Calls Tryz.prog fn #[.pointer (some ⟨K.P,0,none⟩),.pointer (some ⟨N,0,none⟩)] wc fun e w'=>e=.returned (.tuple #[])∧AtI w w' K r.2∧(r.2.code=0→ItAt w' N (some ⟨N,0,none⟩) r.1)
theorem one5 (a b:ByteArray) (c:Int) (d:Bool) (e:Int):(#[Value.string a,.string b,.int .i64 c,.bool d,.int .u64 e]:Array Value).all (·.oneCell')=true:=by simp [Value.oneCell']
theorem infoV:(Tryz.prog.info? 58).map (·.size)=some 5:=by kernel_rfl
theorem rvr {v:Value} {a b:ByteArray} {c:Int} {d:Bool} {e:Int} {r:Sy.Vr} (hv:v=.agg #[.string a,.string b,.int .i64 c,.bool d,.int .u64 e]) (h:(⟨a,⟨b,c⟩,d,e⟩:Sy.Vr)=r):Ending.returned v=.returned (.agg (vrVals r).toArray):=by subst h; rw [hv]; rfl
theorem param_any (K:Pk) (σ:Sy.St) (w:World) (h:PS w K σ):Calls Tryz.prog 94 #[.pointer (some ⟨K.P,0,none⟩)] w fun e w'=>e=.returned (.agg (vrVals (Sy.paramM K.C σ).1).toArray)∧At w w' K (Sy.paramM K.C σ).2:=by
 have HS:=zz h;have HT:=zz (fun W (hs:PS W K σ)=>typ_any K σ W hs);obtain ⟨tt,htt⟩:∃ tt,Sy.typM K.C σ=tt:=⟨_,rfl⟩;rw [htt] at HT;obtain ⟨⟨tb,ts⟩,υ⟩:=tt;simp only at HT;have HN:=zz (fun W (hs:PS W K υ)=>name_any K υ W hs);obtain ⟨nn,hnn⟩:∃ nn,Sy.nameM K.C υ=nn:=⟨_,rfl⟩;rw [hnn] at HN;obtain ⟨nm,φ⟩:=nn;simp only at HN;have HM:Hid (Sy.paramM K.C σ=(⟨nm,⟨tb,ts⟩,false,0⟩,φ)):=zz (by unfold Sy.paramM; simp only [htt,hnn]);clear h htt hnn;go_enter Tryz.func94,Tryz.ntmps94;go_upto_region 1 with fail
 obtain ⟨w1,hw1⟩:∃ W,w.alloc (.cells #[.string ⟨#[]⟩,.string ⟨#[]⟩,.int .i64 0,.bool false,.int .u64 0] 58)=W:=⟨_,rfl⟩;obtain ⟨R,hRR⟩:∃ R,w.heap.size=R:=⟨_,rfl⟩;have r1:w1.heap[R]?=some (.cells #[.string ⟨#[]⟩,.string ⟨#[]⟩,.int .i64 0,.bool false,.int .u64 0] 58 (0,0)):=by rw [← hw1,← hRR]; exact heap_alloc_new _ _
 have HK1:Hid (Keeps No w w1):=zz (by rw [← hw1]; exact (Keeps.refl _ _).alloc _);have HR:Hid (w.heap.size≤R∧R≠K.P):=zz ⟨by omega,by have:=HS.out.lt; omega⟩;rw [hw1,hRR];have HRR1:=zz r1;clear hw1 hRR r1;go_wp2_with fail;refine (HT.out w1 (HS.out.no HK1.out)).mono ?_;rintro e w2 ⟨rfl,hat⟩;have HA2:=zz (At.after HK1.out hat);have HRR2:Hid (w2.heap[R]?=some (.cells #[.string ⟨#[]⟩,.string ⟨#[]⟩,.int .i64 0,.bool false,.int .u64 0] 58 (0,0))):=zz ((hat.k.block _ (Array.getElem?_eq_some_iff.1 HRR1.out).1 (fun e=>HR.out.2 e)).trans HRR1.out);clear hat HRR1;go_upto_region 2 with fail
 have hv:(w2.alloc (.cells #[.string ⟨#[]⟩,.string tb,.int .i64 ts,.bool false,.int .u64 0] 58)).heap[w2.heap.size]?=some (.cells #[.string ⟨#[]⟩,.string tb,.int .i64 ts,.bool false,.int .u64 0] 58 (0,0)):=heap_alloc_new _ _;have hk3:Keeps No w2 (w2.alloc (.cells #[.string ⟨#[]⟩,.string tb,.int .i64 ts,.bool false,.int .u64 0] 58)):=(Keeps.refl _ _).alloc _;generalize w2.alloc (.cells #[.string ⟨#[]⟩,.string tb,.int .i64 ts,.bool false,.int .u64 0] 58)=w3 at hv hk3 ⊢;obtain ⟨V,hV⟩:∃ q,w2.heap.size=q:=⟨_,rfl⟩;have HVR:Hid (w.heap.size≤V∧V≠K.P∧V≠R):=zz ⟨by have:=HA2.out.k.size; omega,by have:=HA2.out.p.lt; omega,by have:=(Array.getElem?_eq_some_iff.1 HRR2.out).1; omega⟩;rw [hV] at hv ⊢;have HV3:=zz hv;have HA3:=zz (HA2.out.no hk3);have HRR3:Hid (w3.heap[R]?=some (.cells #[.string ⟨#[]⟩,.string ⟨#[]⟩,.int .i64 0,.bool false,.int .u64 0] 58 (0,0))):=zz ((hk3.block _ (Array.getElem?_eq_some_iff.1 HRR2.out).1 (fun e=>e)).trans HRR2.out);clear hv hV hk3 HRR2;go_wp2_with fail;refine (HN.out w3 HA3.out.p).mono ?_;rintro e w4 ⟨rfl,hat⟩;have HA4:=zz (HA3.out.trans hat);have HRR4:Hid (w4.heap[R]?=some (.cells #[.string ⟨#[]⟩,.string ⟨#[]⟩,.int .i64 0,.bool false,.int .u64 0] 58 (0,0))):=zz ((hat.k.block _ (Array.getElem?_eq_some_iff.1 HRR3.out).1 (fun e=>HR.out.2 e)).trans HRR3.out);have HV4:Hid (w4.heap[V]?=some (.cells #[.string ⟨#[]⟩,.string tb,.int .i64 ts,.bool false,.int .u64 0] 58 (0,0))):=zz ((hat.k.block _ (Array.getElem?_eq_some_iff.1 HV3.out).1 (fun e=>HVR.out.2.1 e)).trans HV3.out);clear hat HRR3 HV3;have y0:w4.cell? ⟨V,0,none⟩=some (.string ⟨#[]⟩):=by rw [cell_of_row w4 V 0 _ _ _ HV4.out]; rfl
 have z0:w4.frozen? ⟨V,0,none⟩=false:=frozen_of_row w4 V 0 _ _ HV4.out;go_upto_region 3 with fail
 have HA5:=zz (HA4.out.newR HS.out ((Keeps.refl (fun q=>q=V) w4).setCell (p:=⟨V,0,none⟩) (.inl rfl) (.string nm)) HVR.out.1);have hv5:(w4.setCell ⟨V,0,none⟩ (.string nm)).heap[V]?=some (.cells #[.string nm,.string tb,.int .i64 ts,.bool false,.int .u64 0] 58 (0,0)):=by rw [heap_setCell_same w4 V 0 _ _ _ HV4.out]; rfl
 have HRR5:Hid ((w4.setCell ⟨V,0,none⟩ (.string nm)).heap[R]?=some (.cells #[.string ⟨#[]⟩,.string ⟨#[]⟩,.int .i64 0,.bool false,.int .u64 0] 58 (0,0))):=zz ((Below.heap_setCell _ _ _ _ (fun e=>HVR.out.2.2 (by simpa using e.symm))).trans HRR4.out);generalize w4.setCell ⟨V,0,none⟩ (.string nm)=w5 at HA5 hv5 HRR5 ⊢;clear y0 z0 HRR4 HV4;have q0:w5.cell? ⟨V,0,none⟩=some (.string nm):=by rw [cell_of_row w5 V 0 _ _ _ hv5]; rfl
 have q1:w5.cell? ⟨V,1,none⟩=some (.string tb):=by rw [cell_of_row w5 V 1 _ _ _ hv5]; rfl
 have q2:w5.cell? ⟨V,2,none⟩=some (.int .i64 ts):=by rw [cell_of_row w5 V 2 _ _ _ hv5]; rfl
 have q3:w5.cell? ⟨V,3,none⟩=some (.bool false):=by rw [cell_of_row w5 V 3 _ _ _ hv5]; rfl
 have q4:w5.cell? ⟨V,4,none⟩=some (.int .u64 0):=by rw [cell_of_row w5 V 4 _ _ _ hv5]; rfl
 clear hv5
 repeat (first | (refine wpList_store_row rfl _ _ _ rfl R _ rfl rfl _ _ HRR5.out infoV rfl (one5 _ _ _ _ _) ?_) | go_values | go_skip | go_guarded | go_step | go_upon | go_back)
 have hrc:=fun j=>cell_of_row _ R j _ _ _ (setRow_heap w5 R _ #[.string nm,.string tb,.int .i64 ts,.bool false,.int .u64 0] _ _ HRR5.out)
 have HFA:Hid (At w (w5.setRow R #[.string nm,.string tb,.int .i64 ts,.bool false,.int .u64 0]) K φ):=zz (HA5.out.newR HS.out (Keeps.setRow (S:=fun q=>q=R) (Keeps.refl _ _) (.inl rfl) _) HR.out.1);refine bodyPost_ret (v:=.agg #[.string nm,.string tb,.int .i64 ts,.bool false,.int .u64 0]) ?_ rfl ⟨by rw [HM.out]; rfl,by rw [HM.out]; exact HFA.out⟩;simp [results,Tryz.results94,go_sem,hrc,Act.put]
end Go.Proofs.YtjgkacggjhobmaaGreatDoor
namespace Go.Proofs.YtjgkacggjhobmaaGreatDoor.Sy
open Go.RowKit Lx
variable {C:Cx}
theorem lost_at (σ:St):(lostM C σ).at_=C.T.length:=rfl
theorem typ_go {σ:St} (h:σ.at_ < C.T.length):σ.at_ < (typM C σ).2.at_:=by
 by_cases ht:typedM C σ=true
 · exact Nat.lt_of_lt_of_le (next_go h) (typed_mo (Nat.le_of_lt h) ht).at_
 · unfold typM; rw [if_neg ht]; exact h
theorem typed_lt {σ:St} (h:typedM C σ=true):σ.at_ < C.T.length:=by
 refine Classical.byContradiction (fun hn=>?_);have hp:peekM C σ 0=⟨0,C.en,nt,nt,0,false⟩:=by
  unfold peekM; rw [List.getD_eq_getElem?_getD,List.getElem?_eq_none (by omega)]; rfl
 unfold typedM txt at h;rw [hp] at h;have h2:(typeWord nt || (((0:Int)==1)&&σ.types.contains nt))=true:=h;rw [show typeWord nt=false from by decide] at h2;simp at h2
theorem Mo.param {σ τ:St} (h:Mo C σ τ):Mo C σ (paramM C τ).2:=by unfold paramM; exact h.typ.name
theorem Mo.params {σ:St}:∀ (f:Nat) (τ:St) (acc:List Vr),Mo C σ τ→Mo C σ (paramsM C f τ acc).2
 | 0,τ,acc,h=>h
 | f+1,τ,acc,h=>by
   unfold paramsM; simp only;split
   · exact Mo.params f _ _ (h.next.param)
   · exact h
theorem Mo.types {σ:St}:∀ (f:Nat) (τ:St) (acc:List Ty),Mo C σ τ→Mo C σ (typesM C f τ acc).2
 | 0,τ,acc,h=>h
 | f+1,τ,acc,h=>by
   unfold typesM; simp only;split
   · exact Mo.types f _ _ (h.next.typ)
   · exact h
theorem Mo.conds {σ:St}:∀ (f:Nat) (τ:St) (acc:List Ex),Mo C σ τ→Mo C σ (condsM C f τ acc).2
 | 0,τ,acc,h=>h
 | f+1,τ,acc,h=>by
   unfold condsM; simp only;split
   · exact Mo.conds f _ _ (condM_mo h.next)
   · exact h
theorem Mo.field {σ τ:St} (h:Mo C σ τ):Mo C σ (fieldM C τ).2:=by unfold fieldM; exact (h.typ.name.number).want _
theorem Mo.fields {σ:St}:∀ (f:Nat) (τ:St) (acc:List Vr),Mo C σ τ→Mo C σ (fieldsM C f τ acc).2
 | 0,τ,acc,h=>h
 | f+1,τ,acc,h=>by
   unfold fieldsM; simp only;split
   · exact (h.field.next).want _
   split
   · exact Mo.fields f _ _ h.field
   · exact h.field.lost
theorem field_go {σ:St} (h:σ.at_≤C.T.length) (ht:typedM C (fieldM C σ).2=true):σ.at_ < (fieldM C σ).2.at_:=by
 have h1:=typed_lt ht;by_cases hl:σ.at_ < C.T.length
 · have h2:=typ_go hl;have h3:Mo C (typM C σ).2 (fieldM C σ).2:=by
    unfold fieldM; exact ((Mo.refl ((Mo.refl h).typ).le).name.number).want _
   exact Nat.lt_of_lt_of_le h2 h3.at_
 · have:=((Mo.refl h).field).at_; omega
theorem Mo.block {σ τ:St} (h:Mo C σ τ):Mo C σ (blockM C τ).2:=h.trans (S_mo _ _ _ h.le)
theorem Mo.func {σ τ:St} (h:Mo C σ τ) (i:It):Mo C σ (functionM C i τ).2:=by
 unfold functionM; simp only;split
 · split
   · exact h.next.next.next
   split
   · exact h.next.next.block
   · exact h.next.next.lost
 · have h2:=(Mo.params C.T.length _ [(paramM C (nextM C τ)).1] h.next.param).want ⟨#[41]⟩;split
   · exact h2.next
   split
   · exact h2.block
   · exact h2.lost
theorem Mo.initial {σ τ:St} (h:Mo C σ τ) (i:It):Mo C σ (initialM C i τ).2:=by
 unfold initialM; simp only;split
 · exact (Mo.conds _ _ _ (condM_mo h.next)).want _
 · exact condM_mo h
theorem Mo.struct {σ τ:St} (h:Mo C σ τ) (i:It):Mo C σ (structM C i τ).2:=by
 unfold structM; simp only;exact Mo.fields _ _ _ ((h.next.name).want _)
theorem decl_aux (i:It) (τ:St):(declarationM C i τ).2=(if isM C (nameM C (typM C τ).2).2 ⟨#[40]⟩ then (functionM C { i with v:={ i.v with ty:=(typM C τ).1,name:=(nameM C (typM C τ).2).1 } } (nameM C (typM C τ).2).2).2 else (declarationM C i τ).2):=by
 split
 · next h=>unfold declarationM; simp only; rw [if_pos h]
 · rfl
theorem Mo.decl0 {σ τ:St} (i:It) (h:Mo C σ (typM C τ).2):Mo C σ (declarationM C i τ).2:=by
 unfold declarationM; simp only;split
 · exact h.name.func _
 · split
   · exact (h.name.number.next.initial _).want _
   · exact (h.name.number).want _
theorem Mo.decl {σ τ:St} (h:Mo C σ τ) (i:It):Mo C σ (declarationM C i τ).2:=Mo.decl0 i h.typ
structure Mi (C:Cx) (σ τ:St):Prop where
 at_:σ.at_≤τ.at_
 le:τ.at_≤C.T.length
 code:τ.code=0→σ.code=0
 ty:τ.types.length≤σ.types.length+1
theorem Mo.mi {σ τ:St} (h:Mo C σ τ):Mi C σ τ:=⟨h.at_,h.le,h.code,by rw [h.ty]; omega⟩
theorem typedef_mi {σ τ:St} (h:Mo C σ τ) (i:It):Mi C σ (typedefM C i τ).2:=by
 unfold typedefM; simp only;have h1:=(h.next.typ.name).want ⟨#[40]⟩;split
 · have h2:=(h1.next).want ⟨#[59]⟩;exact ⟨h2.at_,h2.le,h2.code,by simp [h2.ty]⟩
 · have h2:=((Mo.types C.T.length _ [(typM C (wantM C (nameM C (typM C (nextM C τ)).2).2 ⟨#[40]⟩)).1] h1.typ).want ⟨#[41]⟩).want ⟨#[59]⟩;exact ⟨h2.at_,h2.le,h2.code,by simp [h2.ty]⟩
theorem item_mi {σ:St} (h:σ.at_ < C.T.length):σ.at_ < (itemM C σ).2.at_∧Mi C σ (itemM C σ).2:=by
 have hn:=next_go h;have hle:=Nat.le_of_lt h;have r:=Mo.refl ((Mo.refl hle).next).le;unfold itemM; simp only;split
 · refine ⟨?_,((Mo.refl hle).struct _).mi⟩;have:Mo C (nextM C σ) (structM C (it0 ((peekM C σ 0).at_:Int)) σ).2:=by
    unfold structM; simp only;exact Mo.fields _ _ _ ((r.name).want _)
   exact Nat.lt_of_lt_of_le hn this.at_
 split
 · refine ⟨?_,typedef_mi (Mo.refl hle) _⟩;have:Mi C (nextM C σ) (typedefM C (it0 ((peekM C σ 0).at_:Int)) σ).2:=by
    unfold typedefM; simp only;have h1:=(r.typ.name).want ⟨#[40]⟩;split
    · have h2:=(h1.next).want ⟨#[59]⟩;exact ⟨h2.at_,h2.le,h2.code,by simp [h2.ty]⟩
    · have h2:=((Mo.types C.T.length _ [(typM C (wantM C (nameM C (typM C (nextM C σ)).2).2 ⟨#[40]⟩)).1] h1.typ).want ⟨#[41]⟩).want ⟨#[59]⟩;exact ⟨h2.at_,h2.le,h2.code,by simp [h2.ty]⟩
   exact Nat.lt_of_lt_of_le hn this.at_
 · refine ⟨?_,((Mo.refl hle).decl _).mi⟩;have h1:=typ_go h;have h2:Mo C (typM C σ).2 (declarationM C (it0 ((peekM C σ 0).at_:Int)) σ).2:=Mo.decl0 _ (Mo.refl ((Mo.refl hle).typ).le);exact Nat.lt_of_lt_of_le h1 h2.at_
end Go.Proofs.YtjgkacggjhobmaaGreatDoor.Sy
