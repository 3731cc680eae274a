/- The region of Take. -/
import Derived.Test.YthipgcojbhcdgaaVr0
namespace Go.Proofs.Ythipgcojbhcdgaa
open Go.RowKit Go.Maps Go.Sort
set_option linter.unusedSimpArgs false
set_option maxRecDepth 100000 in
set_option maxHeartbeats 4000000 in
theorem rg42 {a : Act} {p : String} {Q : Exit → Act → World → Prop} {b3 : Nat} {m : PM} {W w : World} {j k g7 c7 bM q : Nat} {vW : Value} {L : List (PP × Px)} {way : List PM} {ld : Int → Int} {V : Int → Int → Int} {s0 : PP} {z0 : Px} {way0 : List PM} {vW0 : Value} {w0 : World} (hQ : ∀ c a x v w, Q (.panic c) (Act.put a x v) w → Q (.panic c) a w) (hsz : a.tmps.size = 242) (h7 : a.eval (.tmp 7) = .slice (some ⟨g7, 0, none⟩) j c7) (h15 : a.eval (.tmp 15) = .int .i64 (q : Int)) (h20 : a.eval (.tmp 20) = .pointer (some ⟨b3, 0, none⟩)) (hq : q < j) (hM : w.heap[b3]? = some (.cells (mc m) 44)) (HV : Vs W j k g7 c7 bM vW L way ld V w) (hQL : q < L.length) (hSZ : L[q] = (s0, z0)) (hn : j ≤ 64) (hk : k ≤ 200) (hto : m.to = s0.id) (HV0 : Vs W j k g7 c7 bM vW0 L way0 ld V w0) (hmw : m ∈ way0)
    (hK1 : ∀ s1 x1 aO mO cO out w5 w6, Std j k V s0 w.drew s1 x1 (.slice aO mO cO) out w5 → (E32 j).O W.heap.size w6 (.slice (some ⟨g7, 0, none⟩) j c7) (L.set q (s1, x1)) → Ch (fun i => i = g7) w5 w6 → Q .normal (puts a [(165, (.slice (some ⟨g7, 0, none⟩) j c7 : Value)), (166, (.int .i64 (q : Int) : Value)), (167, (.slice (some ⟨g7, 0, none⟩) j c7 : Value)), (168, (.int .i64 (q : Int) : Value)), (169, (.pointer (some ⟨g7, q * 18, none⟩) : Value)), (170, (.agg (pc j s0 z0) : Value)), (171, (.agg (mc m) : Value)), (172, (.tuple #[.agg (pc j s1 x1), .slice aO mO cO, .int .i64 0] : Value)), (164, (.tuple #[.agg (pc j s1 x1), .slice aO mO cO, .int .i64 0] : Value)), (173, (.agg (pc j s1 x1) : Value)), (174, (.slice aO mO cO : Value)), (175, (.int .i64 0 : Value)), (176, (.pointer (some ⟨g7, q * 18, none⟩) : Value)), (17, (.slice aO mO cO : Value)), (18, (.int .i64 0 : Value))]) w6)
    (hK2 : ∀ s1 x1 aO mO cO out w5 w6, Std j k V s0 w.drew s1 x1 (.slice aO mO cO) out w5 → (E32 j).O W.heap.size w6 (.slice (some ⟨g7, 0, none⟩) j c7) (L.set q (s1, x1)) → Ch (fun i => i = g7) w5 w6 → Q .normal (puts a [(165, (.slice (some ⟨g7, 0, none⟩) j c7 : Value)), (166, (.int .i64 (q : Int) : Value)), (167, (.slice (some ⟨g7, 0, none⟩) j c7 : Value)), (168, (.int .i64 (q : Int) : Value)), (169, (.pointer (some ⟨g7, q * 18, none⟩) : Value)), (171, (.agg (mc m) : Value)), (170, (.agg (pc j s0 z0) : Value)), (172, (.tuple #[.agg (pc j s1 x1), .slice aO mO cO, .int .i64 0] : Value)), (164, (.tuple #[.agg (pc j s1 x1), .slice aO mO cO, .int .i64 0] : Value)), (173, (.agg (pc j s1 x1) : Value)), (174, (.slice aO mO cO : Value)), (175, (.int .i64 0 : Value)), (176, (.pointer (some ⟨g7, q * 18, none⟩) : Value)), (17, (.slice aO mO cO : Value)), (18, (.int .i64 0 : Value))]) w6) :
    (Code.region 42 (ops42 p) true).wp Try.prog Q a w := by
  have HV2 := HV.next (Bel.refl w).drew
  have hM2 := (Bel.refl w).drew.row hM
  have HT2 := take_st2 HV2 hn hk hQL hSZ (HV0.inv.msg m hmw) (HV0.inv.told m hmw) hto
  unfold ops42
  refine wp_region_held_drew (S := fun _ => True) Try.follows trivial (fun _ => ?_)
  refine any_take (i := 0) (v := .slice (some ⟨g7, 0, none⟩) j c7) rfl (by kernel_rfl) (by kernel_rfl) (by kernel_rfl) (fun _ _ _ h => hQ _ _ _ _ _ h) rfl trivial (fun w _ => mv_run (.tmp 7) rfl _ (by simp [ev_put, put_none, sz_put, hsz, h7, h15, h20])) ?_
  refine any_take (i := 1) (v := .int .i64 (q : Int)) rfl (by kernel_rfl) (by kernel_rfl) (by kernel_rfl) (fun _ _ _ h => hQ _ _ _ _ _ h) rfl trivial (fun w _ => mv_run (.tmp 15) rfl _ (by simp [ev_put, put_none, sz_put, hsz, h7, h15, h20])) ?_
  refine any_take (i := 2) (v := .slice (some ⟨g7, 0, none⟩) j c7) rfl (by kernel_rfl) (by kernel_rfl) (by kernel_rfl) (fun _ _ _ h => hQ _ _ _ _ _ h) rfl trivial (fun w _ => mv_run (.tmp 7) rfl _ (by simp [ev_put, put_none, sz_put, hsz, h7, h15, h20])) ?_
  refine any_take (i := 3) (v := .int .i64 (q : Int)) rfl (by kernel_rfl) (by kernel_rfl) (by kernel_rfl) (fun _ _ _ h => hQ _ _ _ _ _ h) rfl trivial (fun w _ => mv_run (.tmp 15) rfl _ (by simp [ev_put, put_none, sz_put, hsz, h7, h15, h20])) ?_
  refine any_take (i := 4) (v := .pointer (some ⟨g7, q * 18, none⟩)) rfl (by kernel_rfl) (by kernel_rfl) (by kernel_rfl) (fun _ _ _ h => hQ _ _ _ _ _ h) rfl trivial (fun w _ => ix25_run (.tmp 167) (.tmp 168) rfl g7 q j c7 (by simp [ev_put, put_none, sz_put, hsz, h7, h15, h20]) (by simp [ev_put, put_none, sz_put, hsz, h7, h15, h20]) hq) ?_
  refine any_twoV (i := 5) (j := 6) (vi := .agg (pc j s0 z0)) (vj := .agg (mc m)) (by kernel_rfl) rfl rfl rfl rfl (elp_ld_run (n := j) (.tmp 169) rfl g7 q (by simp [ev_put, put_none, sz_put, hsz, h7, h15, h20]) HV2.row hQL s0 z0 hSZ) (ldm_run (.tmp 20) rfl b3 (by simp [ev_put, put_none, sz_put, hsz, h7, h15, h20]) m hM2) ⟨trivial, ?_⟩ ⟨trivial, ?_⟩
  · refine any_do (i := 6) (v := .agg (mc m)) (by kernel_rfl) rfl rfl (ldm_run (.tmp 20) rfl b3 (by simp [ev_put, put_none, sz_put, hsz, h7, h15, h20]) m hM2) ⟨trivial, ?_⟩
    refine any_call (i := 7) (by kernel_rfl) rfl rfl (cl_run 8 (.tmp 170) (.tmp 171) 32 44 rfl _ _ (by simp [ev_put, put_none, sz_put, hsz, h7, h15, h20]) (by simp [ev_put, put_none, sz_put, hsz, h7, h15, h20]) (by kernel_rfl)) HT2 ?_
    rintro e w5 ⟨s1, x1, aO, mO, cO, out, rfl, hst⟩
    refine ⟨_, rfl, trivial, ?_⟩
    refine any_do (i := 8) (v := .tuple #[.agg (pc j s1 x1), .slice aO mO cO, .int .i64 0]) (by kernel_rfl) rfl rfl (mv_run (.tmp 172) rfl _ (by simp [ev_put, put_none, sz_put, hsz, h7, h15, h20])) ⟨trivial, ?_⟩
    refine any_take (i := 9) (v := .agg (pc j s1 x1)) rfl (by kernel_rfl) (by kernel_rfl) (by kernel_rfl) (fun _ _ _ h => hQ _ _ _ _ _ h) rfl trivial (fun w _ => ex_run (.tmp 164) 0 rfl #[.agg (pc j s1 x1), .slice aO mO cO, .int .i64 0] (by simp [ev_put, put_none, sz_put, hsz, h7, h15, h20]) _ rfl) ?_
    refine any_take (i := 10) (v := .slice aO mO cO) rfl (by kernel_rfl) (by kernel_rfl) (by kernel_rfl) (fun _ _ _ h => hQ _ _ _ _ _ h) rfl trivial (fun w _ => ex_run (.tmp 164) 1 rfl #[.agg (pc j s1 x1), .slice aO mO cO, .int .i64 0] (by simp [ev_put, put_none, sz_put, hsz, h7, h15, h20]) _ rfl) ?_
    refine any_take (i := 11) (v := .int .i64 0) rfl (by kernel_rfl) (by kernel_rfl) (by kernel_rfl) (fun _ _ _ h => hQ _ _ _ _ _ h) rfl trivial (fun w _ => ex_run (.tmp 164) 2 rfl #[.agg (pc j s1 x1), .slice aO mO cO, .int .i64 0] (by simp [ev_put, put_none, sz_put, hsz, h7, h15, h20]) _ rfl) ?_
    refine any_take (i := 12) (v := .pointer (some ⟨g7, q * 18, none⟩)) rfl (by kernel_rfl) (by kernel_rfl) (by kernel_rfl) (fun _ _ _ h => hQ _ _ _ _ _ h) rfl trivial (fun w _ => ix25_run (.tmp 165) (.tmp 166) rfl g7 q j c7 (by simp [ev_put, put_none, sz_put, hsz, h7, h15, h20]) (by simp [ev_put, put_none, sz_put, hsz, h7, h15, h20]) hq) ?_
    have hrow5 := HV2.row.bel hst.bel
    refine any_skip (i := 13) (by kernel_rfl) rfl rfl (elp_st_run (n := j) (.tmp 176) (.tmp 173) rfl g7 q (by simp [ev_put, put_none, sz_put, hsz, h7, h15, h20]) s1 x1 (by simp [ev_put, put_none, sz_put, hsz, h7, h15, h20]) hrow5 hQL) ⟨trivial, ?_⟩
    refine any_do (i := 14) (v := .slice aO mO cO) (by kernel_rfl) rfl rfl (as_run (.tmp 174) rfl _ (by simp [ev_put, put_none, sz_put, hsz, h7, h15, h20])) ⟨trivial, ?_⟩
    refine any_do (i := 15) (v := .int .i64 0) (by kernel_rfl) rfl rfl (as_run (.tmp 175) rfl _ (by simp [ev_put, put_none, sz_put, hsz, h7, h15, h20])) ⟨trivial, ?_⟩
    refine wpAnyH_done (by kernel_rfl) ?_ _
    simp only [puts] at hK1
    simp only [List.getElem_toArray, List.getElem_cons_zero, List.getElem_cons_succ, put_none]
    exact hK1 s1 x1 aO mO cO out w5 _ hst (hrow5.put q hQL (s1, x1)) (ch_setCells g7 _ _ _)
  · refine any_do (i := 5) (v := .agg (pc j s0 z0)) (by kernel_rfl) rfl rfl (elp_ld_run (n := j) (.tmp 169) rfl g7 q (by simp [ev_put, put_none, sz_put, hsz, h7, h15, h20]) HV2.row hQL s0 z0 hSZ) ⟨trivial, ?_⟩
    refine any_call (i := 7) (by kernel_rfl) rfl rfl (cl_run 8 (.tmp 170) (.tmp 171) 32 44 rfl _ _ (by simp [ev_put, put_none, sz_put, hsz, h7, h15, h20]) (by simp [ev_put, put_none, sz_put, hsz, h7, h15, h20]) (by kernel_rfl)) HT2 ?_
    rintro e w5 ⟨s1, x1, aO, mO, cO, out, rfl, hst⟩
    refine ⟨_, rfl, trivial, ?_⟩
    refine any_do (i := 8) (v := .tuple #[.agg (pc j s1 x1), .slice aO mO cO, .int .i64 0]) (by kernel_rfl) rfl rfl (mv_run (.tmp 172) rfl _ (by simp [ev_put, put_none, sz_put, hsz, h7, h15, h20])) ⟨trivial, ?_⟩
    refine any_take (i := 9) (v := .agg (pc j s1 x1)) rfl (by kernel_rfl) (by kernel_rfl) (by kernel_rfl) (fun _ _ _ h => hQ _ _ _ _ _ h) rfl trivial (fun w _ => ex_run (.tmp 164) 0 rfl #[.agg (pc j s1 x1), .slice aO mO cO, .int .i64 0] (by simp [ev_put, put_none, sz_put, hsz, h7, h15, h20]) _ rfl) ?_
    refine any_take (i := 10) (v := .slice aO mO cO) rfl (by kernel_rfl) (by kernel_rfl) (by kernel_rfl) (fun _ _ _ h => hQ _ _ _ _ _ h) rfl trivial (fun w _ => ex_run (.tmp 164) 1 rfl #[.agg (pc j s1 x1), .slice aO mO cO, .int .i64 0] (by simp [ev_put, put_none, sz_put, hsz, h7, h15, h20]) _ rfl) ?_
    refine any_take (i := 11) (v := .int .i64 0) rfl (by kernel_rfl) (by kernel_rfl) (by kernel_rfl) (fun _ _ _ h => hQ _ _ _ _ _ h) rfl trivial (fun w _ => ex_run (.tmp 164) 2 rfl #[.agg (pc j s1 x1), .slice aO mO cO, .int .i64 0] (by simp [ev_put, put_none, sz_put, hsz, h7, h15, h20]) _ rfl) ?_
    refine any_take (i := 12) (v := .pointer (some ⟨g7, q * 18, none⟩)) rfl (by kernel_rfl) (by kernel_rfl) (by kernel_rfl) (fun _ _ _ h => hQ _ _ _ _ _ h) rfl trivial (fun w _ => ix25_run (.tmp 165) (.tmp 166) rfl g7 q j c7 (by simp [ev_put, put_none, sz_put, hsz, h7, h15, h20]) (by simp [ev_put, put_none, sz_put, hsz, h7, h15, h20]) hq) ?_
    have hrow5 := HV2.row.bel hst.bel
    refine any_skip (i := 13) (by kernel_rfl) rfl rfl (elp_st_run (n := j) (.tmp 176) (.tmp 173) rfl g7 q (by simp [ev_put, put_none, sz_put, hsz, h7, h15, h20]) s1 x1 (by simp [ev_put, put_none, sz_put, hsz, h7, h15, h20]) hrow5 hQL) ⟨trivial, ?_⟩
    refine any_do (i := 14) (v := .slice aO mO cO) (by kernel_rfl) rfl rfl (as_run (.tmp 174) rfl _ (by simp [ev_put, put_none, sz_put, hsz, h7, h15, h20])) ⟨trivial, ?_⟩
    refine any_do (i := 15) (v := .int .i64 0) (by kernel_rfl) rfl rfl (as_run (.tmp 175) rfl _ (by simp [ev_put, put_none, sz_put, hsz, h7, h15, h20])) ⟨trivial, ?_⟩
    refine wpAnyH_done (by kernel_rfl) ?_ _
    simp only [puts] at hK2
    simp only [List.getElem_toArray, List.getElem_cons_zero, List.getElem_cons_succ, put_none]
    exact hK2 s1 x1 aO mO cO out w5 _ hst (hrow5.put q hQL (s1, x1)) (ch_setCells g7 _ _ _)
end Go.Proofs.Ythipgcojbhcdgaa
