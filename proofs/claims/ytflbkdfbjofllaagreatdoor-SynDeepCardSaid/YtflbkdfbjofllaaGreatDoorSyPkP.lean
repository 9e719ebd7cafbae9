import Derived.Test.YtflbkdfbjofllaaGreatDoorSyPkO
import Derived.IntWalk
set_option maxRecDepth 100000
set_option maxHeartbeats 25600000
set_option linter.unusedSimpArgs false
set_option linter.unusedVariables false
namespace Go.Proofs.YtflbkdfbjofllaaGreatDoor.L
open Go.RowKit
theorem char_any (p:Nat) (s:ByteArray) (i:Nat) (hi:i≤s.size) (hs:s.size≤4611686018427387904) (w0 w:World) (h:Sc p s i w0 w) :
    Calls Tryz.prog 82 #[.pointer (some ⟨p,0,none⟩)] w (TokPost p s w0 (Lx.chK s i) ⟨#[]⟩ (Lx.chM s i).2.2 false (Lx.chM s i).1 (i+(Lx.chM s i).2.1)):=by
 have HT:=zz (TokAt.made w)
 have HZ:Hid (w.heap.size < (w.alloc (.cells #[.int .i64 0,.int .i64 0,.string ⟨#[]⟩,.string ⟨#[]⟩,.int .u64 0,.bool false] 45)).heap.size):=zz (by simp)
 have HQ:=zz (Nat.ne_of_gt h.lt)
 have HG:=zz h.g.size
 have HB:Hid (Sc p s i (w.alloc (.cells #[.int .i64 0,.int .i64 0,.string ⟨#[]⟩,.string ⟨#[]⟩,.int .u64 0,.bool false] 45)) (w.alloc (.cells #[.int .i64 0,.int .i64 0,.string ⟨#[]⟩,.string ⟨#[]⟩,.int .u64 0,.bool false] 45))):=zz (h.alloc _).refl
 have HS:=zz h
 clear h
 obtain ⟨c,hc⟩:∃ c,Lx.pk s (i+1)=c:=⟨_,rfl⟩
 obtain ⟨d,hd⟩:∃ d,Lx.pk s (i+2)=d:=⟨_,rfl⟩
 obtain ⟨x,hx⟩:∃ x,Lx.pk s (i+3)=x:=⟨_,rfl⟩
 have hcb:=Lx.pk_bd s (i+1)
 have hdb:=Lx.pk_bd s (i+2)
 rw [hc] at hcb
 rw [hd] at hdb
 obtain ⟨r,hr⟩:∃ r,Lx.chM s i=r:=⟨_,rfl⟩
 have HR:=zz hr
 have HK:Hid (Lx.chK s i=if r.1=0 then 4 else 0):=by unfold Lx.chK; rw [hr]; exact zz rfl
 unfold Lx.chM at hr
 rw [hc,hd,hx] at hr
 have hi3:x=39→i+4≤s.size:=fun e=>by have:=Lx.pk_in (s:=s) (i:=i+3) (by rw [hx,e]; decide); omega
 have hi2:d=39→i+3≤s.size:=fun e=>by have:=Lx.pk_in (s:=s) (i:=i+2) (by rw [hd,e]; decide); omega
 have HC:=zz hc
 have HD:=zz hd
 have HX:=zz hx
 clear hc hd hx
 by_cases h92:c=92
 · subst h92
   by_cases h110:d=110
   · subst h110
     by_cases hx39:x=39
     · subst hx39
       rw [if_pos rfl,if_pos (by decide),if_pos rfl] at hr
       have HV:=zz hr
       have hsz:=hi3 rfl
       clear hr hi2 hi3
       go_enter Tryz.func82,Tryz.ntmps82
       go_wp2_with fail
       refine (peek_as p s i (i+1) 1 _ (by decide) (by omega) hi hs HC _ _ HB.out).mono ?_
       rintro e h1 ⟨rfl,h1⟩
       have H1:=zz h1
       clear h1
       go_wp2_with fail
       refine (peek_as p s i (i+2) 2 _ (by decide) (by omega) hi hs HD _ _ H1.out).mono ?_
       rintro e h2 ⟨rfl,h1⟩
       have H2:=zz h1
       clear h1
       go_wp2_with fail
       refine (peek_as p s i (i+3) 3 _ (by decide) (by omega) hi hs HX _ _ H2.out).mono ?_
       rintro e h3 ⟨rfl,h1⟩
       have H3:=zz h1
       clear h1
       obtain ⟨t0,t1,t2,t3,t4,t5,tf⟩:=(HT.out.on H3.out HZ.out HQ.out).cells
       have d1:=H3.out.c1
       have d2:=H3.out.f 1
       have hne:w.heap.size ≠ p:=HQ.out
       have hne2:p ≠ w.heap.size:=hne.symm
       go_wp2_with fail
       refine bodyPost_ret (v:=.tuple #[tokV 4 ⟨#[]⟩ 10 false,.int .i64 0]) (by simp [results,Tryz.results82,go_sem,tokV,t0,t1,t2,t3,t4,t5]) rfl ?_
       rw [HK.out,HR.out,← HV.out]
       refine ⟨rfl,?_⟩
       repeat (first | with_reducible refine Sc.setq ?_ HG.out HQ.out _ _ | with_reducible refine Sc.drewN ?_ _)
       exact Sc.setI (j:=i+4) ((HS.out.alloc _).onto H3.out) (by omega)
     · have q1:(x == 39)=false:=by simpa using hx39
       have q2:(x != 39)=true:=by simpa using hx39
       rw [if_pos rfl,if_pos (by decide),if_neg hx39] at hr
       have HV:=zz hr
       clear hr hi2 hi3
       go_enter Tryz.func82,Tryz.ntmps82
       go_wp2_with fail
       refine (peek_as p s i (i+1) 1 _ (by decide) (by omega) hi hs HC _ _ HB.out).mono ?_
       rintro e h1 ⟨rfl,h1⟩
       have H1:=zz h1
       clear h1
       go_wp2_with fail
       refine (peek_as p s i (i+2) 2 _ (by decide) (by omega) hi hs HD _ _ H1.out).mono ?_
       rintro e h2 ⟨rfl,h1⟩
       have H2:=zz h1
       clear h1
       go_wp2_with fail
       refine (peek_as p s i (i+3) 3 _ (by decide) (by omega) hi hs HX _ _ H2.out).mono ?_
       rintro e h3 ⟨rfl,h1⟩
       have H3:=zz h1
       clear h1
       obtain ⟨t0,t1,t2,t3,t4,t5,tf⟩:=(HT.out.on H3.out HZ.out HQ.out).cells
       go_wp2_with fail
       refine bodyPost_ret (v:=.tuple #[tokV 0 ⟨#[]⟩ 0 false,.int .i64 3]) (by simp [results,Tryz.results82,go_sem,tokV,t0,t1,t2,t3,t4,t5]) rfl ?_
       rw [HK.out,HR.out,← HV.out]
       refine ⟨rfl,?_⟩
       repeat (first | with_reducible refine Sc.setq ?_ HG.out HQ.out _ _ | with_reducible refine Sc.drewN ?_ _)
       exact (HS.out.alloc _).onto H3.out
   by_cases h48:d=48
   · subst h48
     by_cases hx39:x=39
     · subst hx39
       rw [if_pos rfl,if_pos (by decide),if_pos rfl] at hr
       have HV:=zz hr
       have hsz:=hi3 rfl
       clear hr hi2 hi3
       go_enter Tryz.func82,Tryz.ntmps82
       go_wp2_with fail
       refine (peek_as p s i (i+1) 1 _ (by decide) (by omega) hi hs HC _ _ HB.out).mono ?_
       rintro e h1 ⟨rfl,h1⟩
       have H1:=zz h1
       clear h1
       go_wp2_with fail
       refine (peek_as p s i (i+2) 2 _ (by decide) (by omega) hi hs HD _ _ H1.out).mono ?_
       rintro e h2 ⟨rfl,h1⟩
       have H2:=zz h1
       clear h1
       go_wp2_with fail
       refine (peek_as p s i (i+3) 3 _ (by decide) (by omega) hi hs HX _ _ H2.out).mono ?_
       rintro e h3 ⟨rfl,h1⟩
       have H3:=zz h1
       clear h1
       obtain ⟨t0,t1,t2,t3,t4,t5,tf⟩:=(HT.out.on H3.out HZ.out HQ.out).cells
       have d1:=H3.out.c1
       have d2:=H3.out.f 1
       have hne:w.heap.size ≠ p:=HQ.out
       have hne2:p ≠ w.heap.size:=hne.symm
       go_wp2_with fail
       refine bodyPost_ret (v:=.tuple #[tokV 4 ⟨#[]⟩ 0 false,.int .i64 0]) (by simp [results,Tryz.results82,go_sem,tokV,t0,t1,t2,t3,t4,t5]) rfl ?_
       rw [HK.out,HR.out,← HV.out]
       refine ⟨rfl,?_⟩
       repeat (first | with_reducible refine Sc.setq ?_ HG.out HQ.out _ _ | with_reducible refine Sc.drewN ?_ _)
       exact Sc.setI (j:=i+4) ((HS.out.alloc _).onto H3.out) (by omega)
     · have q1:(x == 39)=false:=by simpa using hx39
       have q2:(x != 39)=true:=by simpa using hx39
       rw [if_pos rfl,if_pos (by decide),if_neg hx39] at hr
       have HV:=zz hr
       clear hr hi2 hi3
       go_enter Tryz.func82,Tryz.ntmps82
       go_wp2_with fail
       refine (peek_as p s i (i+1) 1 _ (by decide) (by omega) hi hs HC _ _ HB.out).mono ?_
       rintro e h1 ⟨rfl,h1⟩
       have H1:=zz h1
       clear h1
       go_wp2_with fail
       refine (peek_as p s i (i+2) 2 _ (by decide) (by omega) hi hs HD _ _ H1.out).mono ?_
       rintro e h2 ⟨rfl,h1⟩
       have H2:=zz h1
       clear h1
       go_wp2_with fail
       refine (peek_as p s i (i+3) 3 _ (by decide) (by omega) hi hs HX _ _ H2.out).mono ?_
       rintro e h3 ⟨rfl,h1⟩
       have H3:=zz h1
       clear h1
       obtain ⟨t0,t1,t2,t3,t4,t5,tf⟩:=(HT.out.on H3.out HZ.out HQ.out).cells
       go_wp2_with fail
       refine bodyPost_ret (v:=.tuple #[tokV 0 ⟨#[]⟩ 0 false,.int .i64 3]) (by simp [results,Tryz.results82,go_sem,tokV,t0,t1,t2,t3,t4,t5]) rfl ?_
       rw [HK.out,HR.out,← HV.out]
       refine ⟨rfl,?_⟩
       repeat (first | with_reducible refine Sc.setq ?_ HG.out HQ.out _ _ | with_reducible refine Sc.drewN ?_ _)
       exact (HS.out.alloc _).onto H3.out
   by_cases h92:d=92
   · subst h92
     by_cases hx39:x=39
     · subst hx39
       rw [if_pos rfl,if_pos (by decide),if_pos rfl] at hr
       have HV:=zz hr
       have hsz:=hi3 rfl
       clear hr hi2 hi3
       go_enter Tryz.func82,Tryz.ntmps82
       go_wp2_with fail
       refine (peek_as p s i (i+1) 1 _ (by decide) (by omega) hi hs HC _ _ HB.out).mono ?_
       rintro e h1 ⟨rfl,h1⟩
       have H1:=zz h1
       clear h1
       go_wp2_with fail
       refine (peek_as p s i (i+2) 2 _ (by decide) (by omega) hi hs HD _ _ H1.out).mono ?_
       rintro e h2 ⟨rfl,h1⟩
       have H2:=zz h1
       clear h1
       go_wp2_with fail
       refine (peek_as p s i (i+2) 2 _ (by decide) (by omega) hi hs HD _ _ H2.out).mono ?_
       rintro e h3 ⟨rfl,h1⟩
       have H3:=zz h1
       clear h1
       go_wp2_with fail
       refine (peek_as p s i (i+3) 3 _ (by decide) (by omega) hi hs HX _ _ H3.out).mono ?_
       rintro e h4 ⟨rfl,h1⟩
       have H4:=zz h1
       clear h1
       obtain ⟨t0,t1,t2,t3,t4,t5,tf⟩:=(HT.out.on H4.out HZ.out HQ.out).cells
       have d1:=H4.out.c1
       have d2:=H4.out.f 1
       have hne:w.heap.size ≠ p:=HQ.out
       have hne2:p ≠ w.heap.size:=hne.symm
       go_wp2_with fail
       refine bodyPost_ret (v:=.tuple #[tokV 4 ⟨#[]⟩ 92 false,.int .i64 0]) (by simp [results,Tryz.results82,go_sem,tokV,t0,t1,t2,t3,t4,t5]) rfl ?_
       rw [HK.out,HR.out,← HV.out]
       refine ⟨rfl,?_⟩
       repeat (first | with_reducible refine Sc.setq ?_ HG.out HQ.out _ _ | with_reducible refine Sc.drewN ?_ _)
       exact Sc.setI (j:=i+4) ((HS.out.alloc _).onto H4.out) (by omega)
     · have q1:(x == 39)=false:=by simpa using hx39
       have q2:(x != 39)=true:=by simpa using hx39
       rw [if_pos rfl,if_pos (by decide),if_neg hx39] at hr
       have HV:=zz hr
       clear hr hi2 hi3
       go_enter Tryz.func82,Tryz.ntmps82
       go_wp2_with fail
       refine (peek_as p s i (i+1) 1 _ (by decide) (by omega) hi hs HC _ _ HB.out).mono ?_
       rintro e h1 ⟨rfl,h1⟩
       have H1:=zz h1
       clear h1
       go_wp2_with fail
       refine (peek_as p s i (i+2) 2 _ (by decide) (by omega) hi hs HD _ _ H1.out).mono ?_
       rintro e h2 ⟨rfl,h1⟩
       have H2:=zz h1
       clear h1
       go_wp2_with fail
       refine (peek_as p s i (i+2) 2 _ (by decide) (by omega) hi hs HD _ _ H2.out).mono ?_
       rintro e h3 ⟨rfl,h1⟩
       have H3:=zz h1
       clear h1
       go_wp2_with fail
       refine (peek_as p s i (i+3) 3 _ (by decide) (by omega) hi hs HX _ _ H3.out).mono ?_
       rintro e h4 ⟨rfl,h1⟩
       have H4:=zz h1
       clear h1
       obtain ⟨t0,t1,t2,t3,t4,t5,tf⟩:=(HT.out.on H4.out HZ.out HQ.out).cells
       go_wp2_with fail
       refine bodyPost_ret (v:=.tuple #[tokV 0 ⟨#[]⟩ 0 false,.int .i64 3]) (by simp [results,Tryz.results82,go_sem,tokV,t0,t1,t2,t3,t4,t5]) rfl ?_
       rw [HK.out,HR.out,← HV.out]
       refine ⟨rfl,?_⟩
       repeat (first | with_reducible refine Sc.setq ?_ HG.out HQ.out _ _ | with_reducible refine Sc.drewN ?_ _)
       exact (HS.out.alloc _).onto H4.out
   by_cases h39:d=39
   · subst h39
     by_cases hx39:x=39
     · subst hx39
       rw [if_pos rfl,if_pos (by decide),if_pos rfl] at hr
       have HV:=zz hr
       have hsz:=hi3 rfl
       clear hr hi2 hi3
       go_enter Tryz.func82,Tryz.ntmps82
       go_wp2_with fail
       refine (peek_as p s i (i+1) 1 _ (by decide) (by omega) hi hs HC _ _ HB.out).mono ?_
       rintro e h1 ⟨rfl,h1⟩
       have H1:=zz h1
       clear h1
       go_wp2_with fail
       refine (peek_as p s i (i+2) 2 _ (by decide) (by omega) hi hs HD _ _ H1.out).mono ?_
       rintro e h2 ⟨rfl,h1⟩
       have H2:=zz h1
       clear h1
       go_wp2_with fail
       refine (peek_as p s i (i+2) 2 _ (by decide) (by omega) hi hs HD _ _ H2.out).mono ?_
       rintro e h3 ⟨rfl,h1⟩
       have H3:=zz h1
       clear h1
       go_wp2_with fail
       refine (peek_as p s i (i+3) 3 _ (by decide) (by omega) hi hs HX _ _ H3.out).mono ?_
       rintro e h4 ⟨rfl,h1⟩
       have H4:=zz h1
       clear h1
       obtain ⟨t0,t1,t2,t3,t4,t5,tf⟩:=(HT.out.on H4.out HZ.out HQ.out).cells
       have d1:=H4.out.c1
       have d2:=H4.out.f 1
       have hne:w.heap.size ≠ p:=HQ.out
       have hne2:p ≠ w.heap.size:=hne.symm
       go_wp2_with fail
       refine bodyPost_ret (v:=.tuple #[tokV 4 ⟨#[]⟩ 39 false,.int .i64 0]) (by simp [results,Tryz.results82,go_sem,tokV,t0,t1,t2,t3,t4,t5]) rfl ?_
       rw [HK.out,HR.out,← HV.out]
       refine ⟨rfl,?_⟩
       repeat (first | with_reducible refine Sc.setq ?_ HG.out HQ.out _ _ | with_reducible refine Sc.drewN ?_ _)
       exact Sc.setI (j:=i+4) ((HS.out.alloc _).onto H4.out) (by omega)
     · have q1:(x == 39)=false:=by simpa using hx39
       have q2:(x != 39)=true:=by simpa using hx39
       rw [if_pos rfl,if_pos (by decide),if_neg hx39] at hr
       have HV:=zz hr
       clear hr hi2 hi3
       go_enter Tryz.func82,Tryz.ntmps82
       go_wp2_with fail
       refine (peek_as p s i (i+1) 1 _ (by decide) (by omega) hi hs HC _ _ HB.out).mono ?_
       rintro e h1 ⟨rfl,h1⟩
       have H1:=zz h1
       clear h1
       go_wp2_with fail
       refine (peek_as p s i (i+2) 2 _ (by decide) (by omega) hi hs HD _ _ H1.out).mono ?_
       rintro e h2 ⟨rfl,h1⟩
       have H2:=zz h1
       clear h1
       go_wp2_with fail
       refine (peek_as p s i (i+2) 2 _ (by decide) (by omega) hi hs HD _ _ H2.out).mono ?_
       rintro e h3 ⟨rfl,h1⟩
       have H3:=zz h1
       clear h1
       go_wp2_with fail
       refine (peek_as p s i (i+3) 3 _ (by decide) (by omega) hi hs HX _ _ H3.out).mono ?_
       rintro e h4 ⟨rfl,h1⟩
       have H4:=zz h1
       clear h1
       obtain ⟨t0,t1,t2,t3,t4,t5,tf⟩:=(HT.out.on H4.out HZ.out HQ.out).cells
       go_wp2_with fail
       refine bodyPost_ret (v:=.tuple #[tokV 0 ⟨#[]⟩ 0 false,.int .i64 3]) (by simp [results,Tryz.results82,go_sem,tokV,t0,t1,t2,t3,t4,t5]) rfl ?_
       rw [HK.out,HR.out,← HV.out]
       refine ⟨rfl,?_⟩
       repeat (first | with_reducible refine Sc.setq ?_ HG.out HQ.out _ _ | with_reducible refine Sc.drewN ?_ _)
       exact (HS.out.alloc _).onto H4.out
   have q1:(d == 110)=false:=by simpa using h110
   have q2:(d == 48)=false:=by simpa using h48
   have q3:(d == 92)=false:=by simpa using h92
   have q4:(d == 39)=false:=by simpa using h39
   rw [if_pos rfl,if_neg (by omega)] at hr
   have HV:=zz hr
   clear hr hi2 hi3
   go_enter Tryz.func82,Tryz.ntmps82
   go_wp2_with fail
   refine (peek_as p s i (i+1) 1 _ (by decide) (by omega) hi hs HC _ _ HB.out).mono ?_
   rintro e h1 ⟨rfl,h1⟩
   have H1:=zz h1
   clear h1
   go_wp2_with fail
   refine (peek_as p s i (i+2) 2 _ (by decide) (by omega) hi hs HD _ _ H1.out).mono ?_
   rintro e h2 ⟨rfl,h1⟩
   have H2:=zz h1
   clear h1
   obtain ⟨t0,t1,t2,t3,t4,t5,tf⟩:=(HT.out.on H2.out HZ.out HQ.out).cells
   go_wp2_with fail
   refine bodyPost_ret (v:=.tuple #[tokV 0 ⟨#[]⟩ 0 false,.int .i64 3]) (by simp [results,Tryz.results82,go_sem,tokV,t0,t1,t2,t3,t4,t5]) rfl ?_
   rw [HK.out,HR.out,← HV.out]
   refine ⟨rfl,?_⟩
   repeat (first | with_reducible refine Sc.setq ?_ HG.out HQ.out _ _ | with_reducible refine Sc.drewN ?_ _)
   exact (HS.out.alloc _).onto H2.out
 · have q0:(c == 92)=false:=by simpa using h92
   by_cases hbad:c < 32∨126 < c∨c=39
   · rcases hbad with hb | hb | hb
     · skip
       rw [if_neg h92,if_pos (.inl hb)] at hr
       have HV:=zz hr
       clear hr hi2 hi3
       go_enter Tryz.func82,Tryz.ntmps82
       go_wp2_with fail
       refine (peek_as p s i (i+1) 1 _ (by decide) (by omega) hi hs HC _ _ HB.out).mono ?_
       rintro e h1 ⟨rfl,h1⟩
       have H1:=zz h1
       clear h1
       obtain ⟨t0,t1,t2,t3,t4,t5,tf⟩:=(HT.out.on H1.out HZ.out HQ.out).cells
       go_wp2_with fail
       refine bodyPost_ret (v:=.tuple #[tokV 0 ⟨#[]⟩ 0 false,.int .i64 3]) (by simp [results,Tryz.results82,go_sem,tokV,t0,t1,t2,t3,t4,t5]) rfl ?_
       rw [HK.out,HR.out,← HV.out]
       refine ⟨rfl,?_⟩
       repeat (first | with_reducible refine Sc.setq ?_ HG.out HQ.out _ _ | with_reducible refine Sc.drewN ?_ _)
       exact (HS.out.alloc _).onto H1.out
     · have hb1:¬ c < 32:=by omega
       rw [if_neg h92,if_pos (.inr (.inl hb))] at hr
       have HV:=zz hr
       clear hr hi2 hi3
       go_enter Tryz.func82,Tryz.ntmps82
       go_wp2_with fail
       refine (peek_as p s i (i+1) 1 _ (by decide) (by omega) hi hs HC _ _ HB.out).mono ?_
       rintro e h1 ⟨rfl,h1⟩
       have H1:=zz h1
       clear h1
       obtain ⟨t0,t1,t2,t3,t4,t5,tf⟩:=(HT.out.on H1.out HZ.out HQ.out).cells
       go_wp2_with fail
       refine bodyPost_ret (v:=.tuple #[tokV 0 ⟨#[]⟩ 0 false,.int .i64 3]) (by simp [results,Tryz.results82,go_sem,tokV,t0,t1,t2,t3,t4,t5]) rfl ?_
       rw [HK.out,HR.out,← HV.out]
       refine ⟨rfl,?_⟩
       repeat (first | with_reducible refine Sc.setq ?_ HG.out HQ.out _ _ | with_reducible refine Sc.drewN ?_ _)
       exact (HS.out.alloc _).onto H1.out
     · subst hb
       clear q0
       rw [if_neg (by decide),if_pos (by decide)] at hr
       have HV:=zz hr
       clear hr hi2 hi3
       go_enter Tryz.func82,Tryz.ntmps82
       go_wp2_with fail
       refine (peek_as p s i (i+1) 1 _ (by decide) (by omega) hi hs HC _ _ HB.out).mono ?_
       rintro e h1 ⟨rfl,h1⟩
       have H1:=zz h1
       clear h1
       obtain ⟨t0,t1,t2,t3,t4,t5,tf⟩:=(HT.out.on H1.out HZ.out HQ.out).cells
       go_wp2_with fail
       refine bodyPost_ret (v:=.tuple #[tokV 0 ⟨#[]⟩ 0 false,.int .i64 3]) (by simp [results,Tryz.results82,go_sem,tokV,t0,t1,t2,t3,t4,t5]) rfl ?_
       rw [HK.out,HR.out,← HV.out]
       refine ⟨rfl,?_⟩
       repeat (first | with_reducible refine Sc.setq ?_ HG.out HQ.out _ _ | with_reducible refine Sc.drewN ?_ _)
       exact (HS.out.alloc _).onto H1.out
   · have b1:¬ c < 32:=fun h=>hbad (.inl h)
     have b2:¬ 126 < c:=fun h=>hbad (.inr (.inl h))
     have b3:(c == 39)=false:=by simpa using fun h=>hbad (.inr (.inr h))
     by_cases hd39:d=39
     · subst hd39
       rw [if_neg h92,if_neg hbad,if_pos rfl] at hr
       have HV:=zz hr
       have hsz:=hi2 rfl
       clear hr hi2 hi3
       go_enter Tryz.func82,Tryz.ntmps82
       go_wp2_with fail
       refine (peek_as p s i (i+1) 1 _ (by decide) (by omega) hi hs HC _ _ HB.out).mono ?_
       rintro e h1 ⟨rfl,h1⟩
       have H1:=zz h1
       clear h1
       go_wp2_with fail
       refine (peek_as p s i (i+2) 2 _ (by decide) (by omega) hi hs HD _ _ H1.out).mono ?_
       rintro e h2 ⟨rfl,h1⟩
       have H2:=zz h1
       clear h1
       obtain ⟨t0,t1,t2,t3,t4,t5,tf⟩:=(HT.out.on H2.out HZ.out HQ.out).cells
       have d1:=H2.out.c1
       have d2:=H2.out.f 1
       have hne:w.heap.size ≠ p:=HQ.out
       have hne2:p ≠ w.heap.size:=hne.symm
       go_wp2_with fail
       refine bodyPost_ret (v:=.tuple #[tokV 4 ⟨#[]⟩ c false,.int .i64 0]) (by simp [results,Tryz.results82,go_sem,tokV,t0,t1,t2,t3,t4,t5]) rfl ?_
       rw [HK.out,HR.out,← HV.out]
       refine ⟨rfl,?_⟩
       repeat (first | with_reducible refine Sc.setq ?_ HG.out HQ.out _ _ | with_reducible refine Sc.drewN ?_ _)
       exact Sc.setI (j:=i+3) ((HS.out.alloc _).onto H2.out) (by omega)
     · have q2:(d != 39)=true:=by simpa using hd39
       have q3:(d == 39)=false:=by simpa using hd39
       rw [if_neg h92,if_neg hbad,if_neg hd39] at hr
       have HV:=zz hr
       clear hr hi2 hi3
       go_enter Tryz.func82,Tryz.ntmps82
       go_wp2_with fail
       refine (peek_as p s i (i+1) 1 _ (by decide) (by omega) hi hs HC _ _ HB.out).mono ?_
       rintro e h1 ⟨rfl,h1⟩
       have H1:=zz h1
       clear h1
       go_wp2_with fail
       refine (peek_as p s i (i+2) 2 _ (by decide) (by omega) hi hs HD _ _ H1.out).mono ?_
       rintro e h2 ⟨rfl,h1⟩
       have H2:=zz h1
       clear h1
       obtain ⟨t0,t1,t2,t3,t4,t5,tf⟩:=(HT.out.on H2.out HZ.out HQ.out).cells
       go_wp2_with fail
       refine bodyPost_ret (v:=.tuple #[tokV 0 ⟨#[]⟩ 0 false,.int .i64 3]) (by simp [results,Tryz.results82,go_sem,tokV,t0,t1,t2,t3,t4,t5]) rfl ?_
       rw [HK.out,HR.out,← HV.out]
       refine ⟨rfl,?_⟩
       repeat (first | with_reducible refine Sc.setq ?_ HG.out HQ.out _ _ | with_reducible refine Sc.drewN ?_ _)
       exact (HS.out.alloc _).onto H2.out
end Go.Proofs.YtflbkdfbjofllaaGreatDoor.L
namespace Go.Proofs.YtflbkdfbjofllaaGreatDoor.L
open Go.RowKit
structure TokN (q:Nat) (n:Int) (hex:Bool) (w:World):Prop where
 a:w.heap[q]?=some (.cells #[.int .i64 3,.int .i64 0,.string ⟨#[]⟩,.string ⟨#[]⟩,.int .u64 n,.bool hex] 45 (0,0))
theorem TokN.cells {q:Nat} {n:Int} {hex:Bool} {w:World} (h:TokN q n hex w):w.cell? ⟨q,0,none⟩=some (.int .i64 3)∧w.cell? ⟨q,1,none⟩=some (.int .i64 0)∧w.cell? ⟨q,2,none⟩=some (.string ⟨#[]⟩)∧w.cell? ⟨q,3,none⟩=some (.string ⟨#[]⟩)∧w.cell? ⟨q,4,none⟩=some (.int .u64 n)∧w.cell? ⟨q,5,none⟩=some (.bool hex)∧(∀ o,w.frozen? ⟨q,o,none⟩=false):=by
 refine ⟨?_,?_,?_,?_,?_,?_,fun o=>?_⟩ <;> simp [World.cell?,World.frozen?,h.a]
theorem TokN.lt {q:Nat} {n:Int} {hex:Bool} {w:World} (h:TokN q n hex w):q < w.heap.size:=(Array.getElem?_eq_some_iff.1 h.a).1
theorem TokN.on {p q:Nat} {s:ByteArray} {i:Nat} {n:Int} {hex:Bool} {w0 w:World} (t:TokN q n hex w0) (h:Sc p s i w0 w) (hqp:q ≠ p):TokN q n hex w:=⟨(h.other t.lt hqp).trans t.a⟩
theorem TokN.set {q:Nat} {n:Int} {hex:Bool} {w:World} (t:TokN q n hex w) {v m:Int} (hv:v=m):TokN q m hex (w.setCell ⟨q,4,none⟩ (.int .u64 v)):=by
 subst hv; exact ⟨by simp [World.setCell,Array.getElem?_modify,t.a]⟩
theorem TokN.setp {p q:Nat} {n:Int} {hex:Bool} {w:World} (t:TokN q n hex w) (hqp:q ≠ p) (o:Nat) (u:Value):TokN q n hex (w.setCell ⟨p,o,none⟩ u) :=
 ⟨(Below.heap_setCell _ _ _ _ hqp).trans t.a⟩
theorem TokN.drewN {q:Nat} {n:Int} {hex:Bool} {w:World} (t:TokN q n hex w) (k:Nat):TokN q n hex (w.drewN k):=⟨t.a⟩
def DigPost (p q:Nat) (s:ByteArray) (w0:World) (hex:Bool) (r:Nat × Int × Bool) (e:Ending) (w':World):Prop :=
 e=.returned (.bool r.2.2)∧Sc p s r.1 w0 w'∧TokN q r.2.1 hex w'
theorem digits_zero (p q:Nat) (s:ByteArray) (i:Nat) (hex:Bool) (hi:i≤s.size) (hs:s.size≤4611686018427387904) (hz:Lx.pk s i=48) (w0 w:World) (h:Sc p s i w0 w) (t:TokN q 0 hex w) (hq:w0.heap.size≤q) (hqp:q ≠ p) :
    Calls Tryz.prog 113 #[.pointer (some ⟨p,0,none⟩),.int .u64 10,.pointer (some ⟨q,4,none⟩)] w (DigPost p q s w0 hex (i+1,0,true)):=by
 have HS:=zz h
 have HT:=zz t
 have HZ:=zz hz
 clear h t hz
 go_enter Tryz.func113,Tryz.ntmps113
 go_wp2_with fail
 refine (peek_as p s i i 0 _ (by decide) (by omega) hi hs HZ _ _ HS.out.refl).mono ?_
 rintro e w1 ⟨rfl,h1⟩
 have d1:=h1.c1
 have d2:=h1.f 1
 have H1:=zz h1
 clear h1
 go_wp2_with fail
 go_returns
 exact ⟨rb rfl rfl,Sc.setI (HS.out.onto H1.out) (by omega),(HT.out.on H1.out hqp).setp hqp _ _⟩
theorem digits_10 (p q:Nat) (s:ByteArray) (i:Nat) (hex:Bool) (hi:i≤s.size) (hs:s.size≤4611686018427387904) (hz:Lx.pk s i ≠ 48) (w0 w:World) (h:Sc p s i w0 w) (t:TokN q 0 hex w) (hq:w0.heap.size≤q) (hqp:q ≠ p) :
    Calls Tryz.prog 113 #[.pointer (some ⟨p,0,none⟩),.int .u64 10,.pointer (some ⟨q,4,none⟩)] w (DigPost p q s w0 hex (Lx.digs s 10 s.size i 0 true)):=by
 have HS:=zz h
 have HT:=zz t
 have hqp':p ≠ q:=hqp.symm
 clear h t
 go_enter Tryz.func113,Tryz.ntmps113
 go_wp2_with fail
 refine (peek_as p s i i 0 _ (by decide) (by omega) hi hs (zz rfl) _ _ HS.out.refl).mono ?_
 rintro e w1 ⟨rfl,h1⟩
 have H1:=zz h1
 clear h1
 have z1:(Lx.pk s i == 48)=false:=by simpa using hz
 have HS1:=zz (HS.out.onto H1.out)
 have HT1:=zz (HT.out.on H1.out hqp)
 go_wp2_with fail
 clear z1
 go_loopg [7] (s.size - i) (fun g v wr=>∃ (k f:Nat) (n:Int) (ok:Bool),v=.bool ok∧k≤s.size∧g=s.size - k∧g≤f∧0≤n∧n≤18446744073709551615∧Hid (Lx.digs s 10 s.size i 0 true=Lx.digs s 10 f k n ok)∧Hid (Sc p s k w0 wr)∧Hid (TokN q n hex wr))
 case atStart=>exact ⟨i,s.size,0,true,rfl,hi,rfl,by omega,by decide,by decide,zz rfl,HS1,HT1⟩
 case round =>
  obtain ⟨k,f,n,ok,rfl,hk,hg,hf,hn0,hn1,HE,H,T⟩:=hrel
  clear HS HT HS1 HT1
  obtain ⟨c,hc⟩:∃ c,Lx.pk s k=c:=⟨_,rfl⟩
  have hcb:=Lx.pk_bd s k
  obtain ⟨V,hV⟩:∃ V,Lx.valB 10 c=V:=⟨_,rfl⟩
  have hVb:=Lx.valB_bd 10 c
  rw [hc] at hcb
  rw [hV] at hVb
  have HV:=zz hV
  have HC:=zz hc
  clear hV hc
  by_cases h0:0≤V
  · have hlt:k < s.size:=Lx.valB_in (b:=10) (by rw [HC.out,HV.out]; exact h0)
    obtain ⟨f,rfl⟩:∃ f',f=f'+1:=⟨f - 1,by omega⟩
    have HE2:Hid (Lx.digs s 10 s.size i 0 true=Lx.digs s 10 f (k+1) ((n * 10+V) % 18446744073709551616) (ok && decide (n≤(18446744073709551615 - V) / 10))):=by
     rw [HE.out]; exact zz (by rw [Lx.digs_yes (by rw [HC.out,HV.out]; exact h0),HC.out,HV.out])
    have hv1:vNum (Lx.valB 10 c)=V:=by rw [HV.out]; exact if_pos h0
    have hv2:vOk (Lx.valB 10 c)=true:=by rw [HV.out]; exact decide_eq_true h0
    have HV1:=zz hv1
    have HV2:=zz hv2
    clear HE hv1 hv2
    by_cases hfit:n≤(18446744073709551615 - V) / 10
    · have hfit':¬ (18446744073709551615 - V) / 10 < n:=by omega
      rw [decide_eq_true hfit,Bool.and_true] at HE2
      go_wp2_with fail
      refine (peek_as p s k k 0 _ (by decide) (by omega) hk hs HC _ _ H.out.refl).mono ?_
      rintro e w1 ⟨rfl,h1⟩
      have H1:=zz h1
      clear h1
      go_wp2_with fail
      refine (value_any c 10 hcb (by decide) _).mono ?_
      rw [HV1.out,HV2.out]
      rintro e w2 ⟨rfl,rfl⟩
      have HT1:=zz (T.out.on H1.out hqp)
      obtain ⟨t0,t1,t2,t3,t4,t5,tf⟩:=HT1.out.cells
      have d1:=H1.out.c1
      have d2:=H1.out.f 1
      have w1a:IntKind.u64.wrap (18446744073709551615 - V)=18446744073709551615 - V:=by simp only [IntKind.wrap,IntKind.bits,IntKind.signed]; simp; omega
      have w1b:(0:Int)≤18446744073709551615 - V:=by omega
      have w1c:(18446744073709551615 - V).tdiv 10=(18446744073709551615 - V) / 10:=Int.tdiv_eq_ediv_of_nonneg w1b
      go_wp2_with fail
      go_quiet (fail)
      clear w1a w1c
      go_wp2_with fail
      go_roundg (gk - 1)
      case rel =>
       refine ⟨k+1,f,(n * 10+V) % 18446744073709551616,ok,rfl,by omega,by omega,by omega,Int.emod_nonneg _ (by decide),by omega,HE2,?_,?_⟩
       · show Sc p s (k+1) w0 _
         repeat (first | with_reducible refine Sc.setq ?_ hq hqp _ _ | with_reducible refine Sc.drewN ?_ _ | (with_reducible refine Sc.setI (i:=k) ?_ ?_; rotate_left; omega))
         exact H.out.onto H1.out
       · show TokN q _ hex _
         repeat (first | with_reducible refine TokN.setp ?_ hqp _ _ | with_reducible refine TokN.drewN ?_ _)
         refine TokN.set (n:=n) ?_ ?_
         · repeat (first | with_reducible refine TokN.drewN ?_ _)
           exact HT1.out
         · first | rfl | omega | (simp only [IntKind.wrap,IntKind.bits,IntKind.signed]; simp; done) | (simp only [IntKind.wrap,IntKind.bits,IntKind.signed]; simp; omega)
      case measure=>omega
    · have hfit':(18446744073709551615 - V) / 10 < n:=by omega
      rw [decide_eq_false hfit,Bool.and_false] at HE2
      go_wp2_with fail
      refine (peek_as p s k k 0 _ (by decide) (by omega) hk hs HC _ _ H.out.refl).mono ?_
      rintro e w1 ⟨rfl,h1⟩
      have H1:=zz h1
      clear h1
      go_wp2_with fail
      refine (value_any c 10 hcb (by decide) _).mono ?_
      rw [HV1.out,HV2.out]
      rintro e w2 ⟨rfl,rfl⟩
      have HT1:=zz (T.out.on H1.out hqp)
      obtain ⟨t0,t1,t2,t3,t4,t5,tf⟩:=HT1.out.cells
      have d1:=H1.out.c1
      have d2:=H1.out.f 1
      have w1a:IntKind.u64.wrap (18446744073709551615 - V)=18446744073709551615 - V:=by simp only [IntKind.wrap,IntKind.bits,IntKind.signed]; simp; omega
      have w1b:(0:Int)≤18446744073709551615 - V:=by omega
      have w1c:(18446744073709551615 - V).tdiv 10=(18446744073709551615 - V) / 10:=Int.tdiv_eq_ediv_of_nonneg w1b
      go_wp2_with fail
      go_quiet (fail)
      clear w1a w1c
      go_wp2_with fail
      go_roundg (gk - 1)
      case rel =>
       refine ⟨k+1,f,(n * 10+V) % 18446744073709551616,false,rfl,by omega,by omega,by omega,Int.emod_nonneg _ (by decide),by omega,HE2,?_,?_⟩
       · show Sc p s (k+1) w0 _
         repeat (first | with_reducible refine Sc.setq ?_ hq hqp _ _ | with_reducible refine Sc.drewN ?_ _ | (with_reducible refine Sc.setI (i:=k) ?_ ?_; rotate_left; omega))
         exact H.out.onto H1.out
       · show TokN q _ hex _
         repeat (first | with_reducible refine TokN.setp ?_ hqp _ _ | with_reducible refine TokN.drewN ?_ _)
         refine TokN.set (n:=n) ?_ ?_
         · repeat (first | with_reducible refine TokN.drewN ?_ _)
           exact HT1.out
         · first | rfl | omega | (simp only [IntKind.wrap,IntKind.bits,IntKind.signed]; simp; done) | (simp only [IntKind.wrap,IntKind.bits,IntKind.signed]; simp; omega)
      case measure=>omega
  · have HE2:Hid (Lx.digs s 10 s.size i 0 true=(k,n,ok)):=by
     rw [HE.out]; exact zz (Lx.digs_no (by rw [HC.out,HV.out]; exact h0))
    have hv1:vNum (Lx.valB 10 c)=0:=by rw [HV.out]; exact if_neg h0
    have hv2:vOk (Lx.valB 10 c)=false:=by rw [HV.out]; exact decide_eq_false h0
    have HV1:=zz hv1
    have HV2:=zz hv2
    clear HE hv1 hv2
    go_wp2_with fail
    refine (peek_as p s k k 0 _ (by decide) (by omega) hk hs HC _ _ H.out.refl).mono ?_
    rintro e w1 ⟨rfl,h1⟩
    have H1:=zz h1
    clear h1
    go_wp2_with fail
    refine (value_any c 10 hcb (by decide) _).mono ?_
    rw [HV1.out,HV2.out]
    rintro e w2 ⟨rfl,rfl⟩
    go_wp2_with fail
    go_returns
    unfold DigPost
    rw [HE2.out]
    exact ⟨rb rfl rfl,H.out.onto H1.out,T.out.on H1.out hqp⟩
theorem digits_16 (p q:Nat) (s:ByteArray) (i:Nat) (hex:Bool) (hi:i≤s.size) (hs:s.size≤4611686018427387904) (w0 w:World) (h:Sc p s i w0 w) (t:TokN q 0 hex w) (hq:w0.heap.size≤q) (hqp:q ≠ p) :
    Calls Tryz.prog 113 #[.pointer (some ⟨p,0,none⟩),.int .u64 16,.pointer (some ⟨q,4,none⟩)] w (DigPost p q s w0 hex (Lx.digs s 16 s.size i 0 true)):=by
 have HS:=zz h
 have HT:=zz t
 have hqp':p ≠ q:=hqp.symm
 clear h t
 go_enter Tryz.func113,Tryz.ntmps113
 go_wp2_with fail
 have HS1:=HS
 have HT1:=HT
 go_loopg [7] (s.size - i) (fun g v wr=>∃ (k f:Nat) (n:Int) (ok:Bool),v=.bool ok∧k≤s.size∧g=s.size - k∧g≤f∧0≤n∧n≤18446744073709551615∧Hid (Lx.digs s 16 s.size i 0 true=Lx.digs s 16 f k n ok)∧Hid (Sc p s k w0 wr)∧Hid (TokN q n hex wr))
 case atStart=>exact ⟨i,s.size,0,true,rfl,hi,rfl,by omega,by decide,by decide,zz rfl,HS1,HT1⟩
 case round =>
  obtain ⟨k,f,n,ok,rfl,hk,hg,hf,hn0,hn1,HE,H,T⟩:=hrel
  clear HS HT HS1 HT1
  obtain ⟨c,hc⟩:∃ c,Lx.pk s k=c:=⟨_,rfl⟩
  have hcb:=Lx.pk_bd s k
  obtain ⟨V,hV⟩:∃ V,Lx.valB 16 c=V:=⟨_,rfl⟩
  have hVb:=Lx.valB_bd 16 c
  rw [hc] at hcb
  rw [hV] at hVb
  have HV:=zz hV
  have HC:=zz hc
  clear hV hc
  by_cases h0:0≤V
  · have hlt:k < s.size:=Lx.valB_in (b:=16) (by rw [HC.out,HV.out]; exact h0)
    obtain ⟨f,rfl⟩:∃ f',f=f'+1:=⟨f - 1,by omega⟩
    have HE2:Hid (Lx.digs s 16 s.size i 0 true=Lx.digs s 16 f (k+1) ((n * 16+V) % 18446744073709551616) (ok && decide (n≤(18446744073709551615 - V) / 16))):=by
     rw [HE.out]; exact zz (by rw [Lx.digs_yes (by rw [HC.out,HV.out]; exact h0),HC.out,HV.out])
    have hv1:vNum (Lx.valB 16 c)=V:=by rw [HV.out]; exact if_pos h0
    have hv2:vOk (Lx.valB 16 c)=true:=by rw [HV.out]; exact decide_eq_true h0
    have HV1:=zz hv1
    have HV2:=zz hv2
    clear HE hv1 hv2
    by_cases hfit:n≤(18446744073709551615 - V) / 16
    · have hfit':¬ (18446744073709551615 - V) / 16 < n:=by omega
      rw [decide_eq_true hfit,Bool.and_true] at HE2
      go_wp2_with fail
      refine (peek_as p s k k 0 _ (by decide) (by omega) hk hs HC _ _ H.out.refl).mono ?_
      rintro e w1 ⟨rfl,h1⟩
      have H1:=zz h1
      clear h1
      go_wp2_with fail
      refine (value_any c 16 hcb (by decide) _).mono ?_
      rw [HV1.out,HV2.out]
      rintro e w2 ⟨rfl,rfl⟩
      have HT1:=zz (T.out.on H1.out hqp)
      obtain ⟨t0,t1,t2,t3,t4,t5,tf⟩:=HT1.out.cells
      have d1:=H1.out.c1
      have d2:=H1.out.f 1
      have w1a:IntKind.u64.wrap (18446744073709551615 - V)=18446744073709551615 - V:=by simp only [IntKind.wrap,IntKind.bits,IntKind.signed]; simp; omega
      have w1b:(0:Int)≤18446744073709551615 - V:=by omega
      have w1c:(18446744073709551615 - V).tdiv 16=(18446744073709551615 - V) / 16:=Int.tdiv_eq_ediv_of_nonneg w1b
      go_wp2_with fail
      go_quiet (fail)
      clear w1a w1c
      go_wp2_with fail
      go_roundg (gk - 1)
      case rel =>
       refine ⟨k+1,f,(n * 16+V) % 18446744073709551616,ok,rfl,by omega,by omega,by omega,Int.emod_nonneg _ (by decide),by omega,HE2,?_,?_⟩
       · show Sc p s (k+1) w0 _
         repeat (first | with_reducible refine Sc.setq ?_ hq hqp _ _ | with_reducible refine Sc.drewN ?_ _ | (with_reducible refine Sc.setI (i:=k) ?_ ?_; rotate_left; omega))
         exact H.out.onto H1.out
       · show TokN q _ hex _
         repeat (first | with_reducible refine TokN.setp ?_ hqp _ _ | with_reducible refine TokN.drewN ?_ _)
         refine TokN.set (n:=n) ?_ ?_
         · repeat (first | with_reducible refine TokN.drewN ?_ _)
           exact HT1.out
         · first | rfl | omega | (simp only [IntKind.wrap,IntKind.bits,IntKind.signed]; simp; done) | (simp only [IntKind.wrap,IntKind.bits,IntKind.signed]; simp; omega)
      case measure=>omega
    · have hfit':(18446744073709551615 - V) / 16 < n:=by omega
      rw [decide_eq_false hfit,Bool.and_false] at HE2
      go_wp2_with fail
      refine (peek_as p s k k 0 _ (by decide) (by omega) hk hs HC _ _ H.out.refl).mono ?_
      rintro e w1 ⟨rfl,h1⟩
      have H1:=zz h1
      clear h1
      go_wp2_with fail
      refine (value_any c 16 hcb (by decide) _).mono ?_
      rw [HV1.out,HV2.out]
      rintro e w2 ⟨rfl,rfl⟩
      have HT1:=zz (T.out.on H1.out hqp)
      obtain ⟨t0,t1,t2,t3,t4,t5,tf⟩:=HT1.out.cells
      have d1:=H1.out.c1
      have d2:=H1.out.f 1
      have w1a:IntKind.u64.wrap (18446744073709551615 - V)=18446744073709551615 - V:=by simp only [IntKind.wrap,IntKind.bits,IntKind.signed]; simp; omega
      have w1b:(0:Int)≤18446744073709551615 - V:=by omega
      have w1c:(18446744073709551615 - V).tdiv 16=(18446744073709551615 - V) / 16:=Int.tdiv_eq_ediv_of_nonneg w1b
      go_wp2_with fail
      go_quiet (fail)
      clear w1a w1c
      go_wp2_with fail
      go_roundg (gk - 1)
      case rel =>
       refine ⟨k+1,f,(n * 16+V) % 18446744073709551616,false,rfl,by omega,by omega,by omega,Int.emod_nonneg _ (by decide),by omega,HE2,?_,?_⟩
       · show Sc p s (k+1) w0 _
         repeat (first | with_reducible refine Sc.setq ?_ hq hqp _ _ | with_reducible refine Sc.drewN ?_ _ | (with_reducible refine Sc.setI (i:=k) ?_ ?_; rotate_left; omega))
         exact H.out.onto H1.out
       · show TokN q _ hex _
         repeat (first | with_reducible refine TokN.setp ?_ hqp _ _ | with_reducible refine TokN.drewN ?_ _)
         refine TokN.set (n:=n) ?_ ?_
         · repeat (first | with_reducible refine TokN.drewN ?_ _)
           exact HT1.out
         · first | rfl | omega | (simp only [IntKind.wrap,IntKind.bits,IntKind.signed]; simp; done) | (simp only [IntKind.wrap,IntKind.bits,IntKind.signed]; simp; omega)
      case measure=>omega
  · have HE2:Hid (Lx.digs s 16 s.size i 0 true=(k,n,ok)):=by
     rw [HE.out]; exact zz (Lx.digs_no (by rw [HC.out,HV.out]; exact h0))
    have hv1:vNum (Lx.valB 16 c)=0:=by rw [HV.out]; exact if_neg h0
    have hv2:vOk (Lx.valB 16 c)=false:=by rw [HV.out]; exact decide_eq_false h0
    have HV1:=zz hv1
    have HV2:=zz hv2
    clear HE hv1 hv2
    go_wp2_with fail
    refine (peek_as p s k k 0 _ (by decide) (by omega) hk hs HC _ _ H.out.refl).mono ?_
    rintro e w1 ⟨rfl,h1⟩
    have H1:=zz h1
    clear h1
    go_wp2_with fail
    refine (value_any c 16 hcb (by decide) _).mono ?_
    rw [HV1.out,HV2.out]
    rintro e w2 ⟨rfl,rfl⟩
    go_wp2_with fail
    go_returns
    unfold DigPost
    rw [HE2.out]
    exact ⟨rb rfl rfl,H.out.onto H1.out,T.out.on H1.out hqp⟩
theorem digits_any (b:Int) (hb:b=10∨b=16) (p q:Nat) (s:ByteArray) (i:Nat) (hex:Bool) (hi:i≤s.size) (hs:s.size≤4611686018427387904) (w0 w:World) (h:Sc p s i w0 w) (t:TokN q 0 hex w) (hq:w0.heap.size≤q) (hqp:q ≠ p) :
    Calls Tryz.prog 113 #[.pointer (some ⟨p,0,none⟩),.int .u64 b,.pointer (some ⟨q,4,none⟩)] w (DigPost p q s w0 hex (Lx.digM s b i)):=by
 unfold Lx.digM
 rcases hb with rfl | rfl
 · by_cases hz:Lx.pk s i=48
   · rw [if_pos ⟨rfl,hz⟩]; exact digits_zero p q s i hex hi hs hz w0 w h t hq hqp
   · rw [if_neg (fun h=>hz h.2)]; exact digits_10 p q s i hex hi hs hz w0 w h t hq hqp
 · rw [if_neg (fun h=>absurd h.1 (by decide))]; exact digits_16 p q s i hex hi hs w0 w h t hq hqp
end Go.Proofs.YtflbkdfbjofllaaGreatDoor.L
namespace Go.Proofs.YtflbkdfbjofllaaGreatDoor.L
open Go.RowKit
structure TokG (q:Nat) (kind at_:Int) (text suf:ByteArray) (n:Int) (hex:Bool) (w:World):Prop where
 a:w.heap[q]?=some (.cells #[.int .i64 kind,.int .i64 at_,.string text,.string suf,.int .u64 n,.bool hex] 45 (0,0))
theorem TokG.cells {q:Nat} {kind at_:Int} {text suf:ByteArray} {n:Int} {hex:Bool} {w:World} (h:TokG q kind at_ text suf n hex w):w.cell? ⟨q,0,none⟩=some (.int .i64 kind)∧w.cell? ⟨q,1,none⟩=some (.int .i64 at_)∧w.cell? ⟨q,2,none⟩=some (.string text)∧w.cell? ⟨q,3,none⟩=some (.string suf)∧w.cell? ⟨q,4,none⟩=some (.int .u64 n)∧w.cell? ⟨q,5,none⟩=some (.bool hex)∧(∀ o,w.frozen? ⟨q,o,none⟩=false):=by
 refine ⟨?_,?_,?_,?_,?_,?_,fun o=>?_⟩ <;> simp [World.cell?,World.frozen?,h.a]
theorem TokG.lt {q:Nat} {kind at_:Int} {text suf:ByteArray} {n:Int} {hex:Bool} {w:World} (h:TokG q kind at_ text suf n hex w):q < w.heap.size:=(Array.getElem?_eq_some_iff.1 h.a).1
theorem TokG.on {p q:Nat} {s:ByteArray} {i:Nat} {kind at_:Int} {text suf:ByteArray} {n:Int} {hex:Bool} {w0 w:World} (t:TokG q kind at_ text suf n hex w0) (h:Sc p s i w0 w) (hqp:q ≠ p):TokG q kind at_ text suf n hex w:=⟨(h.other t.lt hqp).trans t.a⟩
theorem TokN.suf {q:Nat} {n:Int} {hex:Bool} {w:World} (t:TokN q n hex w) (x:ByteArray):TokG q 3 0 ⟨#[]⟩ x n hex (w.setCell ⟨q,3,none⟩ (.string x)) :=
 ⟨by simp [World.setCell,Array.getElem?_modify,t.a]⟩
theorem TokN.hexed {q:Nat} {n:Int} {hex:Bool} {w:World} (t:TokN q n hex w) (x:Bool):TokN q n x (w.setCell ⟨q,5,none⟩ (.bool x)) :=
 ⟨by simp [World.setCell,Array.getElem?_modify,t.a]⟩
theorem TokN.made (w:World):TokN w.heap.size 0 false (w.alloc (.cells #[.int .i64 3,.int .i64 0,.string ⟨#[]⟩,.string ⟨#[]⟩,.int .u64 0,.bool false] 45)):=⟨heap_alloc_new w _⟩
theorem heap_two (w:World) (o:Obj):(w.alloc o).heap.size=w.heap.size+1:=by simp
theorem number_A_in (p:Nat) (s:ByteArray) (i:Nat) (hi:i≤s.size) (hs:s.size≤4611686018427387904) (c0:Int) (HP0:Hid (Lx.pk s i=c0)) (hne0:(c0 == 48)=false) (hk:i≤s.size) (J E:Nat) (V c:Int) (F:Bool) (X:ByteArray) (Ln:Nat) (HR:Hid (Lx.digM s 10 (i)=(J,V,F))) (HX:Hid (Lx.sufStr s J=X)) (HL:Hid (Lx.sufLen s J=Ln)) (hEL:J+Ln=E) (hJ:J≤s.size) (hE:E≤s.size) (HC:Hid (Lx.pk s E=c)) (hcb:0≤c∧c≤255) (HI:Hid (Lx.inB c=true)) (w0 w:World) (h:Sc p s i w0 w) :
    Calls Tryz.prog 81 #[.pointer (some ⟨p,0,none⟩)] w (TokPost p s w0 0 ⟨#[]⟩ 0 false 3 E):=by
 have HZ:Hid (w.heap.size < (w.alloc (.cells #[.int .i64 0,.int .i64 0,.string ⟨#[]⟩,.string ⟨#[]⟩,.int .u64 0,.bool false] 45)).heap.size):=zz (by simp)
 have HT:=zz (TokAt.made w)
 have HQ:=zz (Nat.ne_of_gt h.lt)
 have HG:=zz h.g.size
 have HS:=zz h
 have hqp:w.heap.size+1 ≠ p:=by have:=h.lt; omega
 have hqp':p ≠ w.heap.size+1:=hqp.symm
 have hq:(w.alloc (.cells #[.int .i64 0,.int .i64 0,.string ⟨#[]⟩,.string ⟨#[]⟩,.int .u64 0,.bool false] 45)).heap.size≤w.heap.size+1:=by rw [heap_two]; exact Nat.le_refl _
 have N0:Hid (TokN (w.heap.size+1) 0 false ((w.alloc (.cells #[.int .i64 0,.int .i64 0,.string ⟨#[]⟩,.string ⟨#[]⟩,.int .u64 0,.bool false] 45)).alloc (.cells #[.int .i64 3,.int .i64 0,.string ⟨#[]⟩,.string ⟨#[]⟩,.int .u64 0,.bool false] 45))):=zz (by have:=TokN.made (w.alloc (.cells #[.int .i64 0,.int .i64 0,.string ⟨#[]⟩,.string ⟨#[]⟩,.int .u64 0,.bool false] 45)); rw [heap_two] at this; exact this)
 have B0:Hid (Sc p s i (w.alloc (.cells #[.int .i64 0,.int .i64 0,.string ⟨#[]⟩,.string ⟨#[]⟩,.int .u64 0,.bool false] 45)) ((w.alloc (.cells #[.int .i64 0,.int .i64 0,.string ⟨#[]⟩,.string ⟨#[]⟩,.int .u64 0,.bool false] 45)).alloc (.cells #[.int .i64 3,.int .i64 0,.string ⟨#[]⟩,.string ⟨#[]⟩,.int .u64 0,.bool false] 45))):=zz ((h.alloc _).refl.alloc _)
 clear h
 go_enter Tryz.func81,Tryz.ntmps81
 go_wp2_with fail
 refine (peek_as p s i (i) 0 _ (by decide) (by omega) hi hs HP0 _ _ B0.out.refl).mono ?_
 rintro e x1 ⟨rfl,h1⟩
 have B1:=zz (B0.out.onto h1)
 have K1:=zz h1
 clear h1
 have N1:=zz (N0.out.on K1.out hqp)
 go_wp2_with fail
 refine (digits_any 10 (by decide) p (w.heap.size+1) s i false hk hs _ _ B1.out N1.out hq hqp).mono ?_
 rw [HR.out]
 rintro e x2 ⟨rfl,h1,n1⟩
 have B2:=zz h1
 have N2:=zz n1
 clear h1 n1
 go_wp2_with fail
 refine (suffix_any p s J hJ hs _ _ B2.out.refl).mono ?_
 rw [HX.out,HL.out]
 rintro e x3 ⟨rfl,h1⟩
 rw [hEL] at h1
 have B3:=zz (B2.out.onto h1)
 have N3:=zz (N2.out.on h1 hqp)
 clear h1
 obtain ⟨t0,t1,t2,t3,t4,t5,tf⟩:=N3.out.cells
 have B4:=zz (B3.out.setq hq hqp 3 (.string X))
 have G4:=zz (N3.out.suf X)
 go_wp2_with fail
 clear t0 t1 t2 t3 t4 t5 tf
 refine (peek_as p s E E 0 c (by decide) (by omega) hE hs HC _ _ B4.out.refl).mono ?_
 rintro e x5 ⟨rfl,h1⟩
 have B5:=zz (B4.out.onto h1)
 have G5:=zz (G4.out.on h1 hqp)
 clear h1
 go_wp2_with fail
 refine (inName_as c _ hcb HI _).mono ?_
 rintro e x6 ⟨rfl,rfl⟩
 obtain ⟨g0,g1,g2,g3,g4,g5,gf⟩:=G5.out.cells
 obtain ⟨t0,t1,t2,t3,t4,t5,tf⟩:=(HT.out.on B5.out HZ.out HQ.out).cells
 go_wp2_with fail
 refine bodyPost_ret (v:=.tuple #[tokV 0 ⟨#[]⟩ 0 false,.int .i64 3]) (by simp [results,Tryz.results81,go_sem,tokV,t0,t1,t2,t3,t4,t5]) rfl ⟨rfl,?_⟩
 repeat (first | with_reducible refine Sc.setq ?_ HG.out HQ.out _ _ | with_reducible refine Sc.drewN ?_ _)
 exact (HS.out.alloc _).onto B5.out
theorem number_A_ok (p:Nat) (s:ByteArray) (i:Nat) (hi:i≤s.size) (hs:s.size≤4611686018427387904) (c0:Int) (HP0:Hid (Lx.pk s i=c0)) (hne0:(c0 == 48)=false) (hk:i≤s.size) (J E:Nat) (V c:Int) (X:ByteArray) (Ln:Nat) (HR:Hid (Lx.digM s 10 (i)=(J,V,true))) (HX:Hid (Lx.sufStr s J=X)) (HL:Hid (Lx.sufLen s J=Ln)) (hEL:J+Ln=E) (hJ:J≤s.size) (hE:E≤s.size) (HC:Hid (Lx.pk s E=c)) (hcb:0≤c∧c≤255) (HI:Hid (Lx.inB c=false)) (w0 w:World) (h:Sc p s i w0 w) :
    Calls Tryz.prog 81 #[.pointer (some ⟨p,0,none⟩)] w (TokPost p s w0 3 X V false 0 E):=by
 have HZ:Hid (w.heap.size < (w.alloc (.cells #[.int .i64 0,.int .i64 0,.string ⟨#[]⟩,.string ⟨#[]⟩,.int .u64 0,.bool false] 45)).heap.size):=zz (by simp)
 have HT:=zz (TokAt.made w)
 have HQ:=zz (Nat.ne_of_gt h.lt)
 have HG:=zz h.g.size
 have HS:=zz h
 have hqp:w.heap.size+1 ≠ p:=by have:=h.lt; omega
 have hqp':p ≠ w.heap.size+1:=hqp.symm
 have hq:(w.alloc (.cells #[.int .i64 0,.int .i64 0,.string ⟨#[]⟩,.string ⟨#[]⟩,.int .u64 0,.bool false] 45)).heap.size≤w.heap.size+1:=by rw [heap_two]; exact Nat.le_refl _
 have N0:Hid (TokN (w.heap.size+1) 0 false ((w.alloc (.cells #[.int .i64 0,.int .i64 0,.string ⟨#[]⟩,.string ⟨#[]⟩,.int .u64 0,.bool false] 45)).alloc (.cells #[.int .i64 3,.int .i64 0,.string ⟨#[]⟩,.string ⟨#[]⟩,.int .u64 0,.bool false] 45))):=zz (by have:=TokN.made (w.alloc (.cells #[.int .i64 0,.int .i64 0,.string ⟨#[]⟩,.string ⟨#[]⟩,.int .u64 0,.bool false] 45)); rw [heap_two] at this; exact this)
 have B0:Hid (Sc p s i (w.alloc (.cells #[.int .i64 0,.int .i64 0,.string ⟨#[]⟩,.string ⟨#[]⟩,.int .u64 0,.bool false] 45)) ((w.alloc (.cells #[.int .i64 0,.int .i64 0,.string ⟨#[]⟩,.string ⟨#[]⟩,.int .u64 0,.bool false] 45)).alloc (.cells #[.int .i64 3,.int .i64 0,.string ⟨#[]⟩,.string ⟨#[]⟩,.int .u64 0,.bool false] 45))):=zz ((h.alloc _).refl.alloc _)
 clear h
 go_enter Tryz.func81,Tryz.ntmps81
 go_wp2_with fail
 refine (peek_as p s i (i) 0 _ (by decide) (by omega) hi hs HP0 _ _ B0.out.refl).mono ?_
 rintro e x1 ⟨rfl,h1⟩
 have B1:=zz (B0.out.onto h1)
 have K1:=zz h1
 clear h1
 have N1:=zz (N0.out.on K1.out hqp)
 go_wp2_with fail
 refine (digits_any 10 (by decide) p (w.heap.size+1) s i false hk hs _ _ B1.out N1.out hq hqp).mono ?_
 rw [HR.out]
 rintro e x2 ⟨rfl,h1,n1⟩
 have B2:=zz h1
 have N2:=zz n1
 clear h1 n1
 go_wp2_with fail
 refine (suffix_any p s J hJ hs _ _ B2.out.refl).mono ?_
 rw [HX.out,HL.out]
 rintro e x3 ⟨rfl,h1⟩
 rw [hEL] at h1
 have B3:=zz (B2.out.onto h1)
 have N3:=zz (N2.out.on h1 hqp)
 clear h1
 obtain ⟨t0,t1,t2,t3,t4,t5,tf⟩:=N3.out.cells
 have B4:=zz (B3.out.setq hq hqp 3 (.string X))
 have G4:=zz (N3.out.suf X)
 go_wp2_with fail
 clear t0 t1 t2 t3 t4 t5 tf
 refine (peek_as p s E E 0 c (by decide) (by omega) hE hs HC _ _ B4.out.refl).mono ?_
 rintro e x5 ⟨rfl,h1⟩
 have B5:=zz (B4.out.onto h1)
 have G5:=zz (G4.out.on h1 hqp)
 clear h1
 go_wp2_with fail
 refine (inName_as c _ hcb HI _).mono ?_
 rintro e x6 ⟨rfl,rfl⟩
 obtain ⟨g0,g1,g2,g3,g4,g5,gf⟩:=G5.out.cells
 obtain ⟨t0,t1,t2,t3,t4,t5,tf⟩:=(HT.out.on B5.out HZ.out HQ.out).cells
 go_wp2_with fail
 refine bodyPost_ret (v:=.tuple #[tokV 3 X V false,.int .i64 0]) (by simp [results,Tryz.results81,go_sem,tokV,t0,t1,t2,t3,t4,t5]) rfl ⟨rfl,?_⟩
 repeat (first | with_reducible refine Sc.setq ?_ HG.out HQ.out _ _ | with_reducible refine Sc.drewN ?_ _)
 exact (HS.out.alloc _).onto B5.out
theorem number_A_over (p:Nat) (s:ByteArray) (i:Nat) (hi:i≤s.size) (hs:s.size≤4611686018427387904) (c0:Int) (HP0:Hid (Lx.pk s i=c0)) (hne0:(c0 == 48)=false) (hk:i≤s.size) (J E:Nat) (V c:Int) (X:ByteArray) (Ln:Nat) (HR:Hid (Lx.digM s 10 (i)=(J,V,false))) (HX:Hid (Lx.sufStr s J=X)) (HL:Hid (Lx.sufLen s J=Ln)) (hEL:J+Ln=E) (hJ:J≤s.size) (hE:E≤s.size) (HC:Hid (Lx.pk s E=c)) (hcb:0≤c∧c≤255) (HI:Hid (Lx.inB c=false)) (w0 w:World) (h:Sc p s i w0 w) :
    Calls Tryz.prog 81 #[.pointer (some ⟨p,0,none⟩)] w (TokPost p s w0 0 ⟨#[]⟩ 0 false 6 E):=by
 have HZ:Hid (w.heap.size < (w.alloc (.cells #[.int .i64 0,.int .i64 0,.string ⟨#[]⟩,.string ⟨#[]⟩,.int .u64 0,.bool false] 45)).heap.size):=zz (by simp)
 have HT:=zz (TokAt.made w)
 have HQ:=zz (Nat.ne_of_gt h.lt)
 have HG:=zz h.g.size
 have HS:=zz h
 have hqp:w.heap.size+1 ≠ p:=by have:=h.lt; omega
 have hqp':p ≠ w.heap.size+1:=hqp.symm
 have hq:(w.alloc (.cells #[.int .i64 0,.int .i64 0,.string ⟨#[]⟩,.string ⟨#[]⟩,.int .u64 0,.bool false] 45)).heap.size≤w.heap.size+1:=by rw [heap_two]; exact Nat.le_refl _
 have N0:Hid (TokN (w.heap.size+1) 0 false ((w.alloc (.cells #[.int .i64 0,.int .i64 0,.string ⟨#[]⟩,.string ⟨#[]⟩,.int .u64 0,.bool false] 45)).alloc (.cells #[.int .i64 3,.int .i64 0,.string ⟨#[]⟩,.string ⟨#[]⟩,.int .u64 0,.bool false] 45))):=zz (by have:=TokN.made (w.alloc (.cells #[.int .i64 0,.int .i64 0,.string ⟨#[]⟩,.string ⟨#[]⟩,.int .u64 0,.bool false] 45)); rw [heap_two] at this; exact this)
 have B0:Hid (Sc p s i (w.alloc (.cells #[.int .i64 0,.int .i64 0,.string ⟨#[]⟩,.string ⟨#[]⟩,.int .u64 0,.bool false] 45)) ((w.alloc (.cells #[.int .i64 0,.int .i64 0,.string ⟨#[]⟩,.string ⟨#[]⟩,.int .u64 0,.bool false] 45)).alloc (.cells #[.int .i64 3,.int .i64 0,.string ⟨#[]⟩,.string ⟨#[]⟩,.int .u64 0,.bool false] 45))):=zz ((h.alloc _).refl.alloc _)
 clear h
 go_enter Tryz.func81,Tryz.ntmps81
 go_wp2_with fail
 refine (peek_as p s i (i) 0 _ (by decide) (by omega) hi hs HP0 _ _ B0.out.refl).mono ?_
 rintro e x1 ⟨rfl,h1⟩
 have B1:=zz (B0.out.onto h1)
 have K1:=zz h1
 clear h1
 have N1:=zz (N0.out.on K1.out hqp)
 go_wp2_with fail
 refine (digits_any 10 (by decide) p (w.heap.size+1) s i false hk hs _ _ B1.out N1.out hq hqp).mono ?_
 rw [HR.out]
 rintro e x2 ⟨rfl,h1,n1⟩
 have B2:=zz h1
 have N2:=zz n1
 clear h1 n1
 go_wp2_with fail
 refine (suffix_any p s J hJ hs _ _ B2.out.refl).mono ?_
 rw [HX.out,HL.out]
 rintro e x3 ⟨rfl,h1⟩
 rw [hEL] at h1
 have B3:=zz (B2.out.onto h1)
 have N3:=zz (N2.out.on h1 hqp)
 clear h1
 obtain ⟨t0,t1,t2,t3,t4,t5,tf⟩:=N3.out.cells
 have B4:=zz (B3.out.setq hq hqp 3 (.string X))
 have G4:=zz (N3.out.suf X)
 go_wp2_with fail
 clear t0 t1 t2 t3 t4 t5 tf
 refine (peek_as p s E E 0 c (by decide) (by omega) hE hs HC _ _ B4.out.refl).mono ?_
 rintro e x5 ⟨rfl,h1⟩
 have B5:=zz (B4.out.onto h1)
 have G5:=zz (G4.out.on h1 hqp)
 clear h1
 go_wp2_with fail
 refine (inName_as c _ hcb HI _).mono ?_
 rintro e x6 ⟨rfl,rfl⟩
 obtain ⟨g0,g1,g2,g3,g4,g5,gf⟩:=G5.out.cells
 obtain ⟨t0,t1,t2,t3,t4,t5,tf⟩:=(HT.out.on B5.out HZ.out HQ.out).cells
 go_wp2_with fail
 refine bodyPost_ret (v:=.tuple #[tokV 0 ⟨#[]⟩ 0 false,.int .i64 6]) (by simp [results,Tryz.results81,go_sem,tokV,t0,t1,t2,t3,t4,t5]) rfl ⟨rfl,?_⟩
 repeat (first | with_reducible refine Sc.setq ?_ HG.out HQ.out _ _ | with_reducible refine Sc.drewN ?_ _)
 exact (HS.out.alloc _).onto B5.out
theorem number_B_in (p:Nat) (s:ByteArray) (i:Nat) (hi:i≤s.size) (hs:s.size≤4611686018427387904) (c1:Int) (HP0:Hid (Lx.pk s i=48)) (HP1:Hid (Lx.pk s (i+1)=c1)) (hne1:(c1 == 120)=false) (hk:i≤s.size) (J E:Nat) (V c:Int) (F:Bool) (X:ByteArray) (Ln:Nat) (HR:Hid (Lx.digM s 10 (i)=(J,V,F))) (HX:Hid (Lx.sufStr s J=X)) (HL:Hid (Lx.sufLen s J=Ln)) (hEL:J+Ln=E) (hJ:J≤s.size) (hE:E≤s.size) (HC:Hid (Lx.pk s E=c)) (hcb:0≤c∧c≤255) (HI:Hid (Lx.inB c=true)) (w0 w:World) (h:Sc p s i w0 w) :
    Calls Tryz.prog 81 #[.pointer (some ⟨p,0,none⟩)] w (TokPost p s w0 0 ⟨#[]⟩ 0 false 3 E):=by
 have HZ:Hid (w.heap.size < (w.alloc (.cells #[.int .i64 0,.int .i64 0,.string ⟨#[]⟩,.string ⟨#[]⟩,.int .u64 0,.bool false] 45)).heap.size):=zz (by simp)
 have HT:=zz (TokAt.made w)
 have HQ:=zz (Nat.ne_of_gt h.lt)
 have HG:=zz h.g.size
 have HS:=zz h
 have hqp:w.heap.size+1 ≠ p:=by have:=h.lt; omega
 have hqp':p ≠ w.heap.size+1:=hqp.symm
 have hq:(w.alloc (.cells #[.int .i64 0,.int .i64 0,.string ⟨#[]⟩,.string ⟨#[]⟩,.int .u64 0,.bool false] 45)).heap.size≤w.heap.size+1:=by rw [heap_two]; exact Nat.le_refl _
 have N0:Hid (TokN (w.heap.size+1) 0 false ((w.alloc (.cells #[.int .i64 0,.int .i64 0,.string ⟨#[]⟩,.string ⟨#[]⟩,.int .u64 0,.bool false] 45)).alloc (.cells #[.int .i64 3,.int .i64 0,.string ⟨#[]⟩,.string ⟨#[]⟩,.int .u64 0,.bool false] 45))):=zz (by have:=TokN.made (w.alloc (.cells #[.int .i64 0,.int .i64 0,.string ⟨#[]⟩,.string ⟨#[]⟩,.int .u64 0,.bool false] 45)); rw [heap_two] at this; exact this)
 have B0:Hid (Sc p s i (w.alloc (.cells #[.int .i64 0,.int .i64 0,.string ⟨#[]⟩,.string ⟨#[]⟩,.int .u64 0,.bool false] 45)) ((w.alloc (.cells #[.int .i64 0,.int .i64 0,.string ⟨#[]⟩,.string ⟨#[]⟩,.int .u64 0,.bool false] 45)).alloc (.cells #[.int .i64 3,.int .i64 0,.string ⟨#[]⟩,.string ⟨#[]⟩,.int .u64 0,.bool false] 45))):=zz ((h.alloc _).refl.alloc _)
 clear h
 go_enter Tryz.func81,Tryz.ntmps81
 go_wp2_with fail
 refine (peek_as p s i (i) 0 _ (by decide) (by omega) hi hs HP0 _ _ B0.out.refl).mono ?_
 rintro e x1 ⟨rfl,h1⟩
 have B1:=zz (B0.out.onto h1)
 have K1:=zz h1
 clear h1
 have N1:=zz (N0.out.on K1.out hqp)
 go_wp2_with fail
 refine (peek_as p s i (i+1) 1 _ (by decide) (by omega) hi hs HP1 _ _ B1.out.refl).mono ?_
 rintro e x2 ⟨rfl,h1⟩
 have B2:=zz (B1.out.onto h1)
 have K2:=zz h1
 clear h1
 have N2:=zz (N1.out.on K2.out hqp)
 go_wp2_with fail
 refine (digits_any 10 (by decide) p (w.heap.size+1) s i false hk hs _ _ B2.out N2.out hq hqp).mono ?_
 rw [HR.out]
 rintro e x3 ⟨rfl,h1,n1⟩
 have B3:=zz h1
 have N3:=zz n1
 clear h1 n1
 go_wp2_with fail
 refine (suffix_any p s J hJ hs _ _ B3.out.refl).mono ?_
 rw [HX.out,HL.out]
 rintro e x4 ⟨rfl,h1⟩
 rw [hEL] at h1
 have B4:=zz (B3.out.onto h1)
 have N4:=zz (N3.out.on h1 hqp)
 clear h1
 obtain ⟨t0,t1,t2,t3,t4,t5,tf⟩:=N4.out.cells
 have B5:=zz (B4.out.setq hq hqp 3 (.string X))
 have G5:=zz (N4.out.suf X)
 go_wp2_with fail
 clear t0 t1 t2 t3 t4 t5 tf
 refine (peek_as p s E E 0 c (by decide) (by omega) hE hs HC _ _ B5.out.refl).mono ?_
 rintro e x6 ⟨rfl,h1⟩
 have B6:=zz (B5.out.onto h1)
 have G6:=zz (G5.out.on h1 hqp)
 clear h1
 go_wp2_with fail
 refine (inName_as c _ hcb HI _).mono ?_
 rintro e x7 ⟨rfl,rfl⟩
 obtain ⟨g0,g1,g2,g3,g4,g5,gf⟩:=G6.out.cells
 obtain ⟨t0,t1,t2,t3,t4,t5,tf⟩:=(HT.out.on B6.out HZ.out HQ.out).cells
 go_wp2_with fail
 refine bodyPost_ret (v:=.tuple #[tokV 0 ⟨#[]⟩ 0 false,.int .i64 3]) (by simp [results,Tryz.results81,go_sem,tokV,t0,t1,t2,t3,t4,t5]) rfl ⟨rfl,?_⟩
 repeat (first | with_reducible refine Sc.setq ?_ HG.out HQ.out _ _ | with_reducible refine Sc.drewN ?_ _)
 exact (HS.out.alloc _).onto B6.out
theorem number_B_ok (p:Nat) (s:ByteArray) (i:Nat) (hi:i≤s.size) (hs:s.size≤4611686018427387904) (c1:Int) (HP0:Hid (Lx.pk s i=48)) (HP1:Hid (Lx.pk s (i+1)=c1)) (hne1:(c1 == 120)=false) (hk:i≤s.size) (J E:Nat) (V c:Int) (X:ByteArray) (Ln:Nat) (HR:Hid (Lx.digM s 10 (i)=(J,V,true))) (HX:Hid (Lx.sufStr s J=X)) (HL:Hid (Lx.sufLen s J=Ln)) (hEL:J+Ln=E) (hJ:J≤s.size) (hE:E≤s.size) (HC:Hid (Lx.pk s E=c)) (hcb:0≤c∧c≤255) (HI:Hid (Lx.inB c=false)) (w0 w:World) (h:Sc p s i w0 w) :
    Calls Tryz.prog 81 #[.pointer (some ⟨p,0,none⟩)] w (TokPost p s w0 3 X V false 0 E):=by
 have HZ:Hid (w.heap.size < (w.alloc (.cells #[.int .i64 0,.int .i64 0,.string ⟨#[]⟩,.string ⟨#[]⟩,.int .u64 0,.bool false] 45)).heap.size):=zz (by simp)
 have HT:=zz (TokAt.made w)
 have HQ:=zz (Nat.ne_of_gt h.lt)
 have HG:=zz h.g.size
 have HS:=zz h
 have hqp:w.heap.size+1 ≠ p:=by have:=h.lt; omega
 have hqp':p ≠ w.heap.size+1:=hqp.symm
 have hq:(w.alloc (.cells #[.int .i64 0,.int .i64 0,.string ⟨#[]⟩,.string ⟨#[]⟩,.int .u64 0,.bool false] 45)).heap.size≤w.heap.size+1:=by rw [heap_two]; exact Nat.le_refl _
 have N0:Hid (TokN (w.heap.size+1) 0 false ((w.alloc (.cells #[.int .i64 0,.int .i64 0,.string ⟨#[]⟩,.string ⟨#[]⟩,.int .u64 0,.bool false] 45)).alloc (.cells #[.int .i64 3,.int .i64 0,.string ⟨#[]⟩,.string ⟨#[]⟩,.int .u64 0,.bool false] 45))):=zz (by have:=TokN.made (w.alloc (.cells #[.int .i64 0,.int .i64 0,.string ⟨#[]⟩,.string ⟨#[]⟩,.int .u64 0,.bool false] 45)); rw [heap_two] at this; exact this)
 have B0:Hid (Sc p s i (w.alloc (.cells #[.int .i64 0,.int .i64 0,.string ⟨#[]⟩,.string ⟨#[]⟩,.int .u64 0,.bool false] 45)) ((w.alloc (.cells #[.int .i64 0,.int .i64 0,.string ⟨#[]⟩,.string ⟨#[]⟩,.int .u64 0,.bool false] 45)).alloc (.cells #[.int .i64 3,.int .i64 0,.string ⟨#[]⟩,.string ⟨#[]⟩,.int .u64 0,.bool false] 45))):=zz ((h.alloc _).refl.alloc _)
 clear h
 go_enter Tryz.func81,Tryz.ntmps81
 go_wp2_with fail
 refine (peek_as p s i (i) 0 _ (by decide) (by omega) hi hs HP0 _ _ B0.out.refl).mono ?_
 rintro e x1 ⟨rfl,h1⟩
 have B1:=zz (B0.out.onto h1)
 have K1:=zz h1
 clear h1
 have N1:=zz (N0.out.on K1.out hqp)
 go_wp2_with fail
 refine (peek_as p s i (i+1) 1 _ (by decide) (by omega) hi hs HP1 _ _ B1.out.refl).mono ?_
 rintro e x2 ⟨rfl,h1⟩
 have B2:=zz (B1.out.onto h1)
 have K2:=zz h1
 clear h1
 have N2:=zz (N1.out.on K2.out hqp)
 go_wp2_with fail
 refine (digits_any 10 (by decide) p (w.heap.size+1) s i false hk hs _ _ B2.out N2.out hq hqp).mono ?_
 rw [HR.out]
 rintro e x3 ⟨rfl,h1,n1⟩
 have B3:=zz h1
 have N3:=zz n1
 clear h1 n1
 go_wp2_with fail
 refine (suffix_any p s J hJ hs _ _ B3.out.refl).mono ?_
 rw [HX.out,HL.out]
 rintro e x4 ⟨rfl,h1⟩
 rw [hEL] at h1
 have B4:=zz (B3.out.onto h1)
 have N4:=zz (N3.out.on h1 hqp)
 clear h1
 obtain ⟨t0,t1,t2,t3,t4,t5,tf⟩:=N4.out.cells
 have B5:=zz (B4.out.setq hq hqp 3 (.string X))
 have G5:=zz (N4.out.suf X)
 go_wp2_with fail
 clear t0 t1 t2 t3 t4 t5 tf
 refine (peek_as p s E E 0 c (by decide) (by omega) hE hs HC _ _ B5.out.refl).mono ?_
 rintro e x6 ⟨rfl,h1⟩
 have B6:=zz (B5.out.onto h1)
 have G6:=zz (G5.out.on h1 hqp)
 clear h1
 go_wp2_with fail
 refine (inName_as c _ hcb HI _).mono ?_
 rintro e x7 ⟨rfl,rfl⟩
 obtain ⟨g0,g1,g2,g3,g4,g5,gf⟩:=G6.out.cells
 obtain ⟨t0,t1,t2,t3,t4,t5,tf⟩:=(HT.out.on B6.out HZ.out HQ.out).cells
 go_wp2_with fail
 refine bodyPost_ret (v:=.tuple #[tokV 3 X V false,.int .i64 0]) (by simp [results,Tryz.results81,go_sem,tokV,t0,t1,t2,t3,t4,t5]) rfl ⟨rfl,?_⟩
 repeat (first | with_reducible refine Sc.setq ?_ HG.out HQ.out _ _ | with_reducible refine Sc.drewN ?_ _)
 exact (HS.out.alloc _).onto B6.out
theorem number_B_over (p:Nat) (s:ByteArray) (i:Nat) (hi:i≤s.size) (hs:s.size≤4611686018427387904) (c1:Int) (HP0:Hid (Lx.pk s i=48)) (HP1:Hid (Lx.pk s (i+1)=c1)) (hne1:(c1 == 120)=false) (hk:i≤s.size) (J E:Nat) (V c:Int) (X:ByteArray) (Ln:Nat) (HR:Hid (Lx.digM s 10 (i)=(J,V,false))) (HX:Hid (Lx.sufStr s J=X)) (HL:Hid (Lx.sufLen s J=Ln)) (hEL:J+Ln=E) (hJ:J≤s.size) (hE:E≤s.size) (HC:Hid (Lx.pk s E=c)) (hcb:0≤c∧c≤255) (HI:Hid (Lx.inB c=false)) (w0 w:World) (h:Sc p s i w0 w) :
    Calls Tryz.prog 81 #[.pointer (some ⟨p,0,none⟩)] w (TokPost p s w0 0 ⟨#[]⟩ 0 false 6 E):=by
 have HZ:Hid (w.heap.size < (w.alloc (.cells #[.int .i64 0,.int .i64 0,.string ⟨#[]⟩,.string ⟨#[]⟩,.int .u64 0,.bool false] 45)).heap.size):=zz (by simp)
 have HT:=zz (TokAt.made w)
 have HQ:=zz (Nat.ne_of_gt h.lt)
 have HG:=zz h.g.size
 have HS:=zz h
 have hqp:w.heap.size+1 ≠ p:=by have:=h.lt; omega
 have hqp':p ≠ w.heap.size+1:=hqp.symm
 have hq:(w.alloc (.cells #[.int .i64 0,.int .i64 0,.string ⟨#[]⟩,.string ⟨#[]⟩,.int .u64 0,.bool false] 45)).heap.size≤w.heap.size+1:=by rw [heap_two]; exact Nat.le_refl _
 have N0:Hid (TokN (w.heap.size+1) 0 false ((w.alloc (.cells #[.int .i64 0,.int .i64 0,.string ⟨#[]⟩,.string ⟨#[]⟩,.int .u64 0,.bool false] 45)).alloc (.cells #[.int .i64 3,.int .i64 0,.string ⟨#[]⟩,.string ⟨#[]⟩,.int .u64 0,.bool false] 45))):=zz (by have:=TokN.made (w.alloc (.cells #[.int .i64 0,.int .i64 0,.string ⟨#[]⟩,.string ⟨#[]⟩,.int .u64 0,.bool false] 45)); rw [heap_two] at this; exact this)
 have B0:Hid (Sc p s i (w.alloc (.cells #[.int .i64 0,.int .i64 0,.string ⟨#[]⟩,.string ⟨#[]⟩,.int .u64 0,.bool false] 45)) ((w.alloc (.cells #[.int .i64 0,.int .i64 0,.string ⟨#[]⟩,.string ⟨#[]⟩,.int .u64 0,.bool false] 45)).alloc (.cells #[.int .i64 3,.int .i64 0,.string ⟨#[]⟩,.string ⟨#[]⟩,.int .u64 0,.bool false] 45))):=zz ((h.alloc _).refl.alloc _)
 clear h
 go_enter Tryz.func81,Tryz.ntmps81
 go_wp2_with fail
 refine (peek_as p s i (i) 0 _ (by decide) (by omega) hi hs HP0 _ _ B0.out.refl).mono ?_
 rintro e x1 ⟨rfl,h1⟩
 have B1:=zz (B0.out.onto h1)
 have K1:=zz h1
 clear h1
 have N1:=zz (N0.out.on K1.out hqp)
 go_wp2_with fail
 refine (peek_as p s i (i+1) 1 _ (by decide) (by omega) hi hs HP1 _ _ B1.out.refl).mono ?_
 rintro e x2 ⟨rfl,h1⟩
 have B2:=zz (B1.out.onto h1)
 have K2:=zz h1
 clear h1
 have N2:=zz (N1.out.on K2.out hqp)
 go_wp2_with fail
 refine (digits_any 10 (by decide) p (w.heap.size+1) s i false hk hs _ _ B2.out N2.out hq hqp).mono ?_
 rw [HR.out]
 rintro e x3 ⟨rfl,h1,n1⟩
 have B3:=zz h1
 have N3:=zz n1
 clear h1 n1
 go_wp2_with fail
 refine (suffix_any p s J hJ hs _ _ B3.out.refl).mono ?_
 rw [HX.out,HL.out]
 rintro e x4 ⟨rfl,h1⟩
 rw [hEL] at h1
 have B4:=zz (B3.out.onto h1)
 have N4:=zz (N3.out.on h1 hqp)
 clear h1
 obtain ⟨t0,t1,t2,t3,t4,t5,tf⟩:=N4.out.cells
 have B5:=zz (B4.out.setq hq hqp 3 (.string X))
 have G5:=zz (N4.out.suf X)
 go_wp2_with fail
 clear t0 t1 t2 t3 t4 t5 tf
 refine (peek_as p s E E 0 c (by decide) (by omega) hE hs HC _ _ B5.out.refl).mono ?_
 rintro e x6 ⟨rfl,h1⟩
 have B6:=zz (B5.out.onto h1)
 have G6:=zz (G5.out.on h1 hqp)
 clear h1
 go_wp2_with fail
 refine (inName_as c _ hcb HI _).mono ?_
 rintro e x7 ⟨rfl,rfl⟩
 obtain ⟨g0,g1,g2,g3,g4,g5,gf⟩:=G6.out.cells
 obtain ⟨t0,t1,t2,t3,t4,t5,tf⟩:=(HT.out.on B6.out HZ.out HQ.out).cells
 go_wp2_with fail
 refine bodyPost_ret (v:=.tuple #[tokV 0 ⟨#[]⟩ 0 false,.int .i64 6]) (by simp [results,Tryz.results81,go_sem,tokV,t0,t1,t2,t3,t4,t5]) rfl ⟨rfl,?_⟩
 repeat (first | with_reducible refine Sc.setq ?_ HG.out HQ.out _ _ | with_reducible refine Sc.drewN ?_ _)
 exact (HS.out.alloc _).onto B6.out
theorem number_H_in (p:Nat) (s:ByteArray) (i:Nat) (hi:i≤s.size) (hs:s.size≤4611686018427387904) (c2 W:Int) (HP0:Hid (Lx.pk s i=48)) (HP1:Hid (Lx.pk s (i+1)=120)) (HP2:Hid (Lx.pk s (i+2)=c2)) (hc2:0≤c2∧c2≤255) (HV1:Hid (vNum (Lx.valB 16 c2)=W)) (HV2:Hid (vOk (Lx.valB 16 c2)=true)) (hk:i+2≤s.size) (J E:Nat) (V c:Int) (F:Bool) (X:ByteArray) (Ln:Nat) (HR:Hid (Lx.digM s 16 (i+2)=(J,V,F))) (HX:Hid (Lx.sufStr s J=X)) (HL:Hid (Lx.sufLen s J=Ln)) (hEL:J+Ln=E) (hJ:J≤s.size) (hE:E≤s.size) (HC:Hid (Lx.pk s E=c)) (hcb:0≤c∧c≤255) (HI:Hid (Lx.inB c=true)) (w0 w:World) (h:Sc p s i w0 w) :
    Calls Tryz.prog 81 #[.pointer (some ⟨p,0,none⟩)] w (TokPost p s w0 0 ⟨#[]⟩ 0 false 3 E):=by
 have HZ:Hid (w.heap.size < (w.alloc (.cells #[.int .i64 0,.int .i64 0,.string ⟨#[]⟩,.string ⟨#[]⟩,.int .u64 0,.bool false] 45)).heap.size):=zz (by simp)
 have HT:=zz (TokAt.made w)
 have HQ:=zz (Nat.ne_of_gt h.lt)
 have HG:=zz h.g.size
 have HS:=zz h
 have hqp:w.heap.size+1 ≠ p:=by have:=h.lt; omega
 have hqp':p ≠ w.heap.size+1:=hqp.symm
 have hq:(w.alloc (.cells #[.int .i64 0,.int .i64 0,.string ⟨#[]⟩,.string ⟨#[]⟩,.int .u64 0,.bool false] 45)).heap.size≤w.heap.size+1:=by rw [heap_two]; exact Nat.le_refl _
 have N0:Hid (TokN (w.heap.size+1) 0 false ((w.alloc (.cells #[.int .i64 0,.int .i64 0,.string ⟨#[]⟩,.string ⟨#[]⟩,.int .u64 0,.bool false] 45)).alloc (.cells #[.int .i64 3,.int .i64 0,.string ⟨#[]⟩,.string ⟨#[]⟩,.int .u64 0,.bool false] 45))):=zz (by have:=TokN.made (w.alloc (.cells #[.int .i64 0,.int .i64 0,.string ⟨#[]⟩,.string ⟨#[]⟩,.int .u64 0,.bool false] 45)); rw [heap_two] at this; exact this)
 have B0:Hid (Sc p s i (w.alloc (.cells #[.int .i64 0,.int .i64 0,.string ⟨#[]⟩,.string ⟨#[]⟩,.int .u64 0,.bool false] 45)) ((w.alloc (.cells #[.int .i64 0,.int .i64 0,.string ⟨#[]⟩,.string ⟨#[]⟩,.int .u64 0,.bool false] 45)).alloc (.cells #[.int .i64 3,.int .i64 0,.string ⟨#[]⟩,.string ⟨#[]⟩,.int .u64 0,.bool false] 45))):=zz ((h.alloc _).refl.alloc _)
 clear h
 go_enter Tryz.func81,Tryz.ntmps81
 go_wp2_with fail
 refine (peek_as p s i (i) 0 _ (by decide) (by omega) hi hs HP0 _ _ B0.out.refl).mono ?_
 rintro e x1 ⟨rfl,h1⟩
 have B1:=zz (B0.out.onto h1)
 have K1:=zz h1
 clear h1
 have N1:=zz (N0.out.on K1.out hqp)
 go_wp2_with fail
 refine (peek_as p s i (i+1) 1 _ (by decide) (by omega) hi hs HP1 _ _ B1.out.refl).mono ?_
 rintro e x2 ⟨rfl,h1⟩
 have B2:=zz (B1.out.onto h1)
 have K2:=zz h1
 clear h1
 have N2:=zz (N1.out.on K2.out hqp)
 have d1:=K2.out.c1
 have d2:=K2.out.f 1
 have hk':(i:Int)+2≤(s.size:Int):=by omega
 obtain ⟨t0,t1,t2,t3,t4,t5,tf⟩:=N2.out.cells
 have B3:Hid (Sc p s (i+2) _ _):=zz ((Sc.setI (v:=(i:Int)+2) (j:=i+2) B2.out (by omega)).setq hq hqp 5 (.bool true))
 have N3:=zz ((N2.out.setp hqp 1 (.int .i64 ((i:Int)+2))).hexed true)
 go_wp2_with fail
 clear t0 t1 t2 t3 t4 t5 tf d1 d2
 refine (peek_as p s (i+2) (i+2) 0 _ (by decide) (by omega) hk hs HP2 _ _ B3.out.refl).mono ?_
 rintro e x4 ⟨rfl,h1⟩
 have B4:=zz (B3.out.onto h1)
 have N4:=zz (N3.out.on h1 hqp)
 clear h1
 go_wp2_with fail
 refine (value_any c2 16 hc2 (by decide) _).mono ?_
 rw [HV1.out,HV2.out]
 rintro e x5 ⟨rfl,rfl⟩
 go_wp2_with fail
 refine (digits_any 16 (by decide) p (w.heap.size+1) s (i+2) true hk hs _ _ B4.out N4.out hq hqp).mono ?_
 rw [HR.out]
 rintro e x6 ⟨rfl,h1,n1⟩
 have B6:=zz h1
 have N6:=zz n1
 clear h1 n1
 go_wp2_with fail
 refine (suffix_any p s J hJ hs _ _ B6.out.refl).mono ?_
 rw [HX.out,HL.out]
 rintro e x7 ⟨rfl,h1⟩
 rw [hEL] at h1
 have B7:=zz (B6.out.onto h1)
 have N7:=zz (N6.out.on h1 hqp)
 clear h1
 obtain ⟨t0,t1,t2,t3,t4,t5,tf⟩:=N7.out.cells
 have B8:=zz (B7.out.setq hq hqp 3 (.string X))
 have G8:=zz (N7.out.suf X)
 go_wp2_with fail
 clear t0 t1 t2 t3 t4 t5 tf
 refine (peek_as p s E E 0 c (by decide) (by omega) hE hs HC _ _ B8.out.refl).mono ?_
 rintro e x9 ⟨rfl,h1⟩
 have B9:=zz (B8.out.onto h1)
 have G9:=zz (G8.out.on h1 hqp)
 clear h1
 go_wp2_with fail
 refine (inName_as c _ hcb HI _).mono ?_
 rintro e x10 ⟨rfl,rfl⟩
 obtain ⟨g0,g1,g2,g3,g4,g5,gf⟩:=G9.out.cells
 obtain ⟨t0,t1,t2,t3,t4,t5,tf⟩:=(HT.out.on B9.out HZ.out HQ.out).cells
 go_wp2_with fail
 refine bodyPost_ret (v:=.tuple #[tokV 0 ⟨#[]⟩ 0 false,.int .i64 3]) (by simp [results,Tryz.results81,go_sem,tokV,t0,t1,t2,t3,t4,t5]) rfl ⟨rfl,?_⟩
 repeat (first | with_reducible refine Sc.setq ?_ HG.out HQ.out _ _ | with_reducible refine Sc.drewN ?_ _)
 exact (HS.out.alloc _).onto B9.out
theorem number_H_ok (p:Nat) (s:ByteArray) (i:Nat) (hi:i≤s.size) (hs:s.size≤4611686018427387904) (c2 W:Int) (HP0:Hid (Lx.pk s i=48)) (HP1:Hid (Lx.pk s (i+1)=120)) (HP2:Hid (Lx.pk s (i+2)=c2)) (hc2:0≤c2∧c2≤255) (HV1:Hid (vNum (Lx.valB 16 c2)=W)) (HV2:Hid (vOk (Lx.valB 16 c2)=true)) (hk:i+2≤s.size) (J E:Nat) (V c:Int) (X:ByteArray) (Ln:Nat) (HR:Hid (Lx.digM s 16 (i+2)=(J,V,true))) (HX:Hid (Lx.sufStr s J=X)) (HL:Hid (Lx.sufLen s J=Ln)) (hEL:J+Ln=E) (hJ:J≤s.size) (hE:E≤s.size) (HC:Hid (Lx.pk s E=c)) (hcb:0≤c∧c≤255) (HI:Hid (Lx.inB c=false)) (w0 w:World) (h:Sc p s i w0 w) :
    Calls Tryz.prog 81 #[.pointer (some ⟨p,0,none⟩)] w (TokPost p s w0 3 X V true 0 E):=by
 have HZ:Hid (w.heap.size < (w.alloc (.cells #[.int .i64 0,.int .i64 0,.string ⟨#[]⟩,.string ⟨#[]⟩,.int .u64 0,.bool false] 45)).heap.size):=zz (by simp)
 have HT:=zz (TokAt.made w)
 have HQ:=zz (Nat.ne_of_gt h.lt)
 have HG:=zz h.g.size
 have HS:=zz h
 have hqp:w.heap.size+1 ≠ p:=by have:=h.lt; omega
 have hqp':p ≠ w.heap.size+1:=hqp.symm
 have hq:(w.alloc (.cells #[.int .i64 0,.int .i64 0,.string ⟨#[]⟩,.string ⟨#[]⟩,.int .u64 0,.bool false] 45)).heap.size≤w.heap.size+1:=by rw [heap_two]; exact Nat.le_refl _
 have N0:Hid (TokN (w.heap.size+1) 0 false ((w.alloc (.cells #[.int .i64 0,.int .i64 0,.string ⟨#[]⟩,.string ⟨#[]⟩,.int .u64 0,.bool false] 45)).alloc (.cells #[.int .i64 3,.int .i64 0,.string ⟨#[]⟩,.string ⟨#[]⟩,.int .u64 0,.bool false] 45))):=zz (by have:=TokN.made (w.alloc (.cells #[.int .i64 0,.int .i64 0,.string ⟨#[]⟩,.string ⟨#[]⟩,.int .u64 0,.bool false] 45)); rw [heap_two] at this; exact this)
 have B0:Hid (Sc p s i (w.alloc (.cells #[.int .i64 0,.int .i64 0,.string ⟨#[]⟩,.string ⟨#[]⟩,.int .u64 0,.bool false] 45)) ((w.alloc (.cells #[.int .i64 0,.int .i64 0,.string ⟨#[]⟩,.string ⟨#[]⟩,.int .u64 0,.bool false] 45)).alloc (.cells #[.int .i64 3,.int .i64 0,.string ⟨#[]⟩,.string ⟨#[]⟩,.int .u64 0,.bool false] 45))):=zz ((h.alloc _).refl.alloc _)
 clear h
 go_enter Tryz.func81,Tryz.ntmps81
 go_wp2_with fail
 refine (peek_as p s i (i) 0 _ (by decide) (by omega) hi hs HP0 _ _ B0.out.refl).mono ?_
 rintro e x1 ⟨rfl,h1⟩
 have B1:=zz (B0.out.onto h1)
 have K1:=zz h1
 clear h1
 have N1:=zz (N0.out.on K1.out hqp)
 go_wp2_with fail
 refine (peek_as p s i (i+1) 1 _ (by decide) (by omega) hi hs HP1 _ _ B1.out.refl).mono ?_
 rintro e x2 ⟨rfl,h1⟩
 have B2:=zz (B1.out.onto h1)
 have K2:=zz h1
 clear h1
 have N2:=zz (N1.out.on K2.out hqp)
 have d1:=K2.out.c1
 have d2:=K2.out.f 1
 have hk':(i:Int)+2≤(s.size:Int):=by omega
 obtain ⟨t0,t1,t2,t3,t4,t5,tf⟩:=N2.out.cells
 have B3:Hid (Sc p s (i+2) _ _):=zz ((Sc.setI (v:=(i:Int)+2) (j:=i+2) B2.out (by omega)).setq hq hqp 5 (.bool true))
 have N3:=zz ((N2.out.setp hqp 1 (.int .i64 ((i:Int)+2))).hexed true)
 go_wp2_with fail
 clear t0 t1 t2 t3 t4 t5 tf d1 d2
 refine (peek_as p s (i+2) (i+2) 0 _ (by decide) (by omega) hk hs HP2 _ _ B3.out.refl).mono ?_
 rintro e x4 ⟨rfl,h1⟩
 have B4:=zz (B3.out.onto h1)
 have N4:=zz (N3.out.on h1 hqp)
 clear h1
 go_wp2_with fail
 refine (value_any c2 16 hc2 (by decide) _).mono ?_
 rw [HV1.out,HV2.out]
 rintro e x5 ⟨rfl,rfl⟩
 go_wp2_with fail
 refine (digits_any 16 (by decide) p (w.heap.size+1) s (i+2) true hk hs _ _ B4.out N4.out hq hqp).mono ?_
 rw [HR.out]
 rintro e x6 ⟨rfl,h1,n1⟩
 have B6:=zz h1
 have N6:=zz n1
 clear h1 n1
 go_wp2_with fail
 refine (suffix_any p s J hJ hs _ _ B6.out.refl).mono ?_
 rw [HX.out,HL.out]
 rintro e x7 ⟨rfl,h1⟩
 rw [hEL] at h1
 have B7:=zz (B6.out.onto h1)
 have N7:=zz (N6.out.on h1 hqp)
 clear h1
 obtain ⟨t0,t1,t2,t3,t4,t5,tf⟩:=N7.out.cells
 have B8:=zz (B7.out.setq hq hqp 3 (.string X))
 have G8:=zz (N7.out.suf X)
 go_wp2_with fail
 clear t0 t1 t2 t3 t4 t5 tf
 refine (peek_as p s E E 0 c (by decide) (by omega) hE hs HC _ _ B8.out.refl).mono ?_
 rintro e x9 ⟨rfl,h1⟩
 have B9:=zz (B8.out.onto h1)
 have G9:=zz (G8.out.on h1 hqp)
 clear h1
 go_wp2_with fail
 refine (inName_as c _ hcb HI _).mono ?_
 rintro e x10 ⟨rfl,rfl⟩
 obtain ⟨g0,g1,g2,g3,g4,g5,gf⟩:=G9.out.cells
 obtain ⟨t0,t1,t2,t3,t4,t5,tf⟩:=(HT.out.on B9.out HZ.out HQ.out).cells
 go_wp2_with fail
 refine bodyPost_ret (v:=.tuple #[tokV 3 X V true,.int .i64 0]) (by simp [results,Tryz.results81,go_sem,tokV,t0,t1,t2,t3,t4,t5]) rfl ⟨rfl,?_⟩
 repeat (first | with_reducible refine Sc.setq ?_ HG.out HQ.out _ _ | with_reducible refine Sc.drewN ?_ _)
 exact (HS.out.alloc _).onto B9.out
theorem number_H_over (p:Nat) (s:ByteArray) (i:Nat) (hi:i≤s.size) (hs:s.size≤4611686018427387904) (c2 W:Int) (HP0:Hid (Lx.pk s i=48)) (HP1:Hid (Lx.pk s (i+1)=120)) (HP2:Hid (Lx.pk s (i+2)=c2)) (hc2:0≤c2∧c2≤255) (HV1:Hid (vNum (Lx.valB 16 c2)=W)) (HV2:Hid (vOk (Lx.valB 16 c2)=true)) (hk:i+2≤s.size) (J E:Nat) (V c:Int) (X:ByteArray) (Ln:Nat) (HR:Hid (Lx.digM s 16 (i+2)=(J,V,false))) (HX:Hid (Lx.sufStr s J=X)) (HL:Hid (Lx.sufLen s J=Ln)) (hEL:J+Ln=E) (hJ:J≤s.size) (hE:E≤s.size) (HC:Hid (Lx.pk s E=c)) (hcb:0≤c∧c≤255) (HI:Hid (Lx.inB c=false)) (w0 w:World) (h:Sc p s i w0 w) :
    Calls Tryz.prog 81 #[.pointer (some ⟨p,0,none⟩)] w (TokPost p s w0 0 ⟨#[]⟩ 0 false 6 E):=by
 have HZ:Hid (w.heap.size < (w.alloc (.cells #[.int .i64 0,.int .i64 0,.string ⟨#[]⟩,.string ⟨#[]⟩,.int .u64 0,.bool false] 45)).heap.size):=zz (by simp)
 have HT:=zz (TokAt.made w)
 have HQ:=zz (Nat.ne_of_gt h.lt)
 have HG:=zz h.g.size
 have HS:=zz h
 have hqp:w.heap.size+1 ≠ p:=by have:=h.lt; omega
 have hqp':p ≠ w.heap.size+1:=hqp.symm
 have hq:(w.alloc (.cells #[.int .i64 0,.int .i64 0,.string ⟨#[]⟩,.string ⟨#[]⟩,.int .u64 0,.bool false] 45)).heap.size≤w.heap.size+1:=by rw [heap_two]; exact Nat.le_refl _
 have N0:Hid (TokN (w.heap.size+1) 0 false ((w.alloc (.cells #[.int .i64 0,.int .i64 0,.string ⟨#[]⟩,.string ⟨#[]⟩,.int .u64 0,.bool false] 45)).alloc (.cells #[.int .i64 3,.int .i64 0,.string ⟨#[]⟩,.string ⟨#[]⟩,.int .u64 0,.bool false] 45))):=zz (by have:=TokN.made (w.alloc (.cells #[.int .i64 0,.int .i64 0,.string ⟨#[]⟩,.string ⟨#[]⟩,.int .u64 0,.bool false] 45)); rw [heap_two] at this; exact this)
 have B0:Hid (Sc p s i (w.alloc (.cells #[.int .i64 0,.int .i64 0,.string ⟨#[]⟩,.string ⟨#[]⟩,.int .u64 0,.bool false] 45)) ((w.alloc (.cells #[.int .i64 0,.int .i64 0,.string ⟨#[]⟩,.string ⟨#[]⟩,.int .u64 0,.bool false] 45)).alloc (.cells #[.int .i64 3,.int .i64 0,.string ⟨#[]⟩,.string ⟨#[]⟩,.int .u64 0,.bool false] 45))):=zz ((h.alloc _).refl.alloc _)
 clear h
 go_enter Tryz.func81,Tryz.ntmps81
 go_wp2_with fail
 refine (peek_as p s i (i) 0 _ (by decide) (by omega) hi hs HP0 _ _ B0.out.refl).mono ?_
 rintro e x1 ⟨rfl,h1⟩
 have B1:=zz (B0.out.onto h1)
 have K1:=zz h1
 clear h1
 have N1:=zz (N0.out.on K1.out hqp)
 go_wp2_with fail
 refine (peek_as p s i (i+1) 1 _ (by decide) (by omega) hi hs HP1 _ _ B1.out.refl).mono ?_
 rintro e x2 ⟨rfl,h1⟩
 have B2:=zz (B1.out.onto h1)
 have K2:=zz h1
 clear h1
 have N2:=zz (N1.out.on K2.out hqp)
 have d1:=K2.out.c1
 have d2:=K2.out.f 1
 have hk':(i:Int)+2≤(s.size:Int):=by omega
 obtain ⟨t0,t1,t2,t3,t4,t5,tf⟩:=N2.out.cells
 have B3:Hid (Sc p s (i+2) _ _):=zz ((Sc.setI (v:=(i:Int)+2) (j:=i+2) B2.out (by omega)).setq hq hqp 5 (.bool true))
 have N3:=zz ((N2.out.setp hqp 1 (.int .i64 ((i:Int)+2))).hexed true)
 go_wp2_with fail
 clear t0 t1 t2 t3 t4 t5 tf d1 d2
 refine (peek_as p s (i+2) (i+2) 0 _ (by decide) (by omega) hk hs HP2 _ _ B3.out.refl).mono ?_
 rintro e x4 ⟨rfl,h1⟩
 have B4:=zz (B3.out.onto h1)
 have N4:=zz (N3.out.on h1 hqp)
 clear h1
 go_wp2_with fail
 refine (value_any c2 16 hc2 (by decide) _).mono ?_
 rw [HV1.out,HV2.out]
 rintro e x5 ⟨rfl,rfl⟩
 go_wp2_with fail
 refine (digits_any 16 (by decide) p (w.heap.size+1) s (i+2) true hk hs _ _ B4.out N4.out hq hqp).mono ?_
 rw [HR.out]
 rintro e x6 ⟨rfl,h1,n1⟩
 have B6:=zz h1
 have N6:=zz n1
 clear h1 n1
 go_wp2_with fail
 refine (suffix_any p s J hJ hs _ _ B6.out.refl).mono ?_
 rw [HX.out,HL.out]
 rintro e x7 ⟨rfl,h1⟩
 rw [hEL] at h1
 have B7:=zz (B6.out.onto h1)
 have N7:=zz (N6.out.on h1 hqp)
 clear h1
 obtain ⟨t0,t1,t2,t3,t4,t5,tf⟩:=N7.out.cells
 have B8:=zz (B7.out.setq hq hqp 3 (.string X))
 have G8:=zz (N7.out.suf X)
 go_wp2_with fail
 clear t0 t1 t2 t3 t4 t5 tf
 refine (peek_as p s E E 0 c (by decide) (by omega) hE hs HC _ _ B8.out.refl).mono ?_
 rintro e x9 ⟨rfl,h1⟩
 have B9:=zz (B8.out.onto h1)
 have G9:=zz (G8.out.on h1 hqp)
 clear h1
 go_wp2_with fail
 refine (inName_as c _ hcb HI _).mono ?_
 rintro e x10 ⟨rfl,rfl⟩
 obtain ⟨g0,g1,g2,g3,g4,g5,gf⟩:=G9.out.cells
 obtain ⟨t0,t1,t2,t3,t4,t5,tf⟩:=(HT.out.on B9.out HZ.out HQ.out).cells
 go_wp2_with fail
 refine bodyPost_ret (v:=.tuple #[tokV 0 ⟨#[]⟩ 0 false,.int .i64 6]) (by simp [results,Tryz.results81,go_sem,tokV,t0,t1,t2,t3,t4,t5]) rfl ⟨rfl,?_⟩
 repeat (first | with_reducible refine Sc.setq ?_ HG.out HQ.out _ _ | with_reducible refine Sc.drewN ?_ _)
 exact (HS.out.alloc _).onto B9.out
end Go.Proofs.YtflbkdfbjofllaaGreatDoor.L
namespace Go.Proofs.YtflbkdfbjofllaaGreatDoor.L
open Go.RowKit
theorem number_bad (p:Nat) (s:ByteArray) (i:Nat) (hi:i≤s.size) (hs:s.size≤4611686018427387904) (c2 W:Int) (HP0:Hid (Lx.pk s i=48)) (HP1:Hid (Lx.pk s (i+1)=120)) (HP2:Hid (Lx.pk s (i+2)=c2)) (hc2:0≤c2∧c2≤255) (HV1:Hid (vNum (Lx.valB 16 c2)=W)) (HV2:Hid (vOk (Lx.valB 16 c2)=false)) (hk:i+2≤s.size) (w0 w:World) (h:Sc p s i w0 w) :
    Calls Tryz.prog 81 #[.pointer (some ⟨p,0,none⟩)] w (TokPost p s w0 0 ⟨#[]⟩ 0 false 3 (i+2)):=by
 have HZ:Hid (w.heap.size < (w.alloc (.cells #[.int .i64 0,.int .i64 0,.string ⟨#[]⟩,.string ⟨#[]⟩,.int .u64 0,.bool false] 45)).heap.size):=zz (by simp)
 have HT:=zz (TokAt.made w)
 have HQ:=zz (Nat.ne_of_gt h.lt)
 have HG:=zz h.g.size
 have HS:=zz h
 have hqp:w.heap.size+1 ≠ p:=by have:=h.lt; omega
 have hqp':p ≠ w.heap.size+1:=hqp.symm
 have hq:(w.alloc (.cells #[.int .i64 0,.int .i64 0,.string ⟨#[]⟩,.string ⟨#[]⟩,.int .u64 0,.bool false] 45)).heap.size≤w.heap.size+1:=by rw [heap_two]; exact Nat.le_refl _
 have N0:Hid (TokN (w.heap.size+1) 0 false ((w.alloc (.cells #[.int .i64 0,.int .i64 0,.string ⟨#[]⟩,.string ⟨#[]⟩,.int .u64 0,.bool false] 45)).alloc (.cells #[.int .i64 3,.int .i64 0,.string ⟨#[]⟩,.string ⟨#[]⟩,.int .u64 0,.bool false] 45))):=zz (by have:=TokN.made (w.alloc (.cells #[.int .i64 0,.int .i64 0,.string ⟨#[]⟩,.string ⟨#[]⟩,.int .u64 0,.bool false] 45)); rw [heap_two] at this; exact this)
 have B0:Hid (Sc p s i (w.alloc (.cells #[.int .i64 0,.int .i64 0,.string ⟨#[]⟩,.string ⟨#[]⟩,.int .u64 0,.bool false] 45)) ((w.alloc (.cells #[.int .i64 0,.int .i64 0,.string ⟨#[]⟩,.string ⟨#[]⟩,.int .u64 0,.bool false] 45)).alloc (.cells #[.int .i64 3,.int .i64 0,.string ⟨#[]⟩,.string ⟨#[]⟩,.int .u64 0,.bool false] 45))):=zz ((h.alloc _).refl.alloc _)
 clear h
 go_enter Tryz.func81,Tryz.ntmps81
 go_wp2_with fail
 refine (peek_as p s i (i) 0 _ (by decide) (by omega) hi hs HP0 _ _ B0.out.refl).mono ?_
 rintro e x1 ⟨rfl,h1⟩
 have B1:=zz (B0.out.onto h1)
 have K1:=zz h1
 clear h1
 have N1:=zz (N0.out.on K1.out hqp)
 go_wp2_with fail
 refine (peek_as p s i (i+1) 1 _ (by decide) (by omega) hi hs HP1 _ _ B1.out.refl).mono ?_
 rintro e x2 ⟨rfl,h1⟩
 have B2:=zz (B1.out.onto h1)
 have K2:=zz h1
 clear h1
 have N2:=zz (N1.out.on K2.out hqp)
 have d1:=K2.out.c1
 have d2:=K2.out.f 1
 have hk':(i:Int)+2≤(s.size:Int):=by omega
 obtain ⟨t0,t1,t2,t3,t4,t5,tf⟩:=N2.out.cells
 have B3:Hid (Sc p s (i+2) _ _):=zz ((Sc.setI (v:=(i:Int)+2) (j:=i+2) B2.out (by omega)).setq hq hqp 5 (.bool true))
 go_wp2_with fail
 clear t0 t1 t2 t3 t4 t5 tf d1 d2
 refine (peek_as p s (i+2) (i+2) 0 _ (by decide) (by omega) hk hs HP2 _ _ B3.out.refl).mono ?_
 rintro e x4 ⟨rfl,h1⟩
 have B4:=zz (B3.out.onto h1)
 clear h1
 go_wp2_with fail
 refine (value_any c2 16 hc2 (by decide) _).mono ?_
 rw [HV1.out,HV2.out]
 rintro e x5 ⟨rfl,rfl⟩
 obtain ⟨t0,t1,t2,t3,t4,t5,tf⟩:=(HT.out.on B4.out HZ.out HQ.out).cells
 go_wp2_with fail
 refine bodyPost_ret (v:=.tuple #[tokV 0 ⟨#[]⟩ 0 false,.int .i64 3]) (by simp [results,Tryz.results81,go_sem,tokV,t0,t1,t2,t3,t4,t5]) rfl ⟨rfl,?_⟩
 repeat (first | with_reducible refine Sc.setq ?_ HG.out HQ.out _ _ | with_reducible refine Sc.drewN ?_ _)
 exact (HS.out.alloc _).onto B4.out
def RecPost (p:Nat) (s:ByteArray) (w0:World) (r:Lx.NumR):Ending→World→Prop:=TokPost p s w0 r.kind r.suf r.num r.hex r.code r.j
theorem vOk_iff (v:Int) (h:0≤v):vOk v=true:=decide_eq_true h
theorem number_any (p:Nat) (s:ByteArray) (i:Nat) (hi:i≤s.size) (hs:s.size≤4611686018427387904) (w0 w:World) (h:Sc p s i w0 w) :
    Calls Tryz.prog 81 #[.pointer (some ⟨p,0,none⟩)] w (RecPost p s w0 (Lx.numberM s i)):=by
 have tl:∀ (b:Int) (k:Nat) (hk:k≤s.size),∃ (J:Nat) (V:Int) (F:Bool) (X:ByteArray) (Ln E:Nat) (c:Int) (I:Bool),Lx.digM s b k=(J,V,F)∧Lx.sufStr s J=X∧Lx.sufLen s J=Ln∧J+Ln=E∧J≤s.size∧E≤s.size∧Lx.pk s E=c∧(0≤c∧c≤255)∧Lx.inB c=I ∧
     (∀ hex,Lx.tailM s b k hex=if I=true then Lx.bad 3 E else if F=true then ⟨0,E,3,X,V,hex⟩ else Lx.bad 6 E):=fun b k hk=>by
  have hb:=Lx.digM_bd (b:=b) hk
  refine ⟨(Lx.digM s b k).1,(Lx.digM s b k).2.1,(Lx.digM s b k).2.2,_,_,_,_,_,rfl,rfl,rfl,rfl,hb.2.1,Lx.sufLen_le hb.2.1,rfl,Lx.pk_bd _ _,rfl,fun hex=>?_⟩
  unfold Lx.tailM Lx.nCode Lx.nEnd
  cases Lx.inB (Lx.pk s ((Lx.digM s b k).1+Lx.sufLen s (Lx.digM s b k).1)) <;> cases (Lx.digM s b k).2.2 <;> simp
 unfold Lx.numberM
 by_cases h0:Lx.pk s i=48
 · by_cases h1:Lx.pk s (i+1)=120
   · rw [if_pos ⟨h0,h1⟩]
     have hk:i+2≤s.size:=by have:=Lx.pk_in (s:=s) (i:=i+1) (by rw [h1]; decide); omega
     by_cases hv:Lx.valB 16 (Lx.pk s (i+2)) < 0
     · rw [if_pos hv]
       exact number_bad p s i hi hs _ _ (zz h0) (zz h1) (zz rfl) (Lx.pk_bd _ _) (zz rfl) (zz (decide_eq_false (by omega))) hk w0 w h
     · rw [if_neg hv]
       obtain ⟨J,V,F,X,Ln,E,c,I,a1,a2,a3,a4,a5,a6,a7,a8,a9,a10⟩:=tl 16 (i+2) hk
       have hV2:=vOk_iff _ (Int.not_lt.1 hv)
       rw [a10]
       cases I
       · cases F
         · exact number_H_over p s i hi hs _ _ (zz h0) (zz h1) (zz rfl) (Lx.pk_bd _ _) (zz rfl) (zz hV2) hk J E V c X Ln (zz a1) (zz a2) (zz a3) a4 a5 a6 (zz a7) a8 (zz a9) w0 w h
         · exact number_H_ok p s i hi hs _ _ (zz h0) (zz h1) (zz rfl) (Lx.pk_bd _ _) (zz rfl) (zz hV2) hk J E V c X Ln (zz a1) (zz a2) (zz a3) a4 a5 a6 (zz a7) a8 (zz a9) w0 w h
       · exact number_H_in p s i hi hs _ _ (zz h0) (zz h1) (zz rfl) (Lx.pk_bd _ _) (zz rfl) (zz hV2) hk J E V c F X Ln (zz a1) (zz a2) (zz a3) a4 a5 a6 (zz a7) a8 (zz a9) w0 w h
   · rw [if_neg (fun h=>h1 h.2)]
     obtain ⟨J,V,F,X,Ln,E,c,I,a1,a2,a3,a4,a5,a6,a7,a8,a9,a10⟩:=tl 10 i hi
     rw [a10]
     cases I
     · cases F
       · exact number_B_over p s i hi hs _ (zz h0) (zz rfl) (by simpa using h1) hi J E V c X Ln (zz a1) (zz a2) (zz a3) a4 a5 a6 (zz a7) a8 (zz a9) w0 w h
       · exact number_B_ok p s i hi hs _ (zz h0) (zz rfl) (by simpa using h1) hi J E V c X Ln (zz a1) (zz a2) (zz a3) a4 a5 a6 (zz a7) a8 (zz a9) w0 w h
     · exact number_B_in p s i hi hs _ (zz h0) (zz rfl) (by simpa using h1) hi J E V c F X Ln (zz a1) (zz a2) (zz a3) a4 a5 a6 (zz a7) a8 (zz a9) w0 w h
 · rw [if_neg (fun h=>h0 h.1)]
   obtain ⟨J,V,F,X,Ln,E,c,I,a1,a2,a3,a4,a5,a6,a7,a8,a9,a10⟩:=tl 10 i hi
   rw [a10]
   cases I
   · cases F
     · exact number_A_over p s i hi hs _ (zz rfl) (by simpa using h0) hi J E V c X Ln (zz a1) (zz a2) (zz a3) a4 a5 a6 (zz a7) a8 (zz a9) w0 w h
     · exact number_A_ok p s i hi hs _ (zz rfl) (by simpa using h0) hi J E V c X Ln (zz a1) (zz a2) (zz a3) a4 a5 a6 (zz a7) a8 (zz a9) w0 w h
   · exact number_A_in p s i hi hs _ (zz rfl) (by simpa using h0) hi J E V c F X Ln (zz a1) (zz a2) (zz a3) a4 a5 a6 (zz a7) a8 (zz a9) w0 w h
end Go.Proofs.YtflbkdfbjofllaaGreatDoor.L
