/- The document's Take. -/
import Derived.Test.YtbcgikkdhfbphaaRft
namespace Go.Proofs.Ytbcgikkdhfbphaa
open Go.RowKit Go.Maps
theorem Rf.off {W W' : World} {q B : Nat} {s : PN} {M : Nat → Prop} (h : Rf W q s M) (k : Ch (fun i => i = B) W W') (hB : ¬ M B) : Rf W' q s M := h.ch k (fun i h1 h2 => by rw [h2] at h1; exact hB h1)
theorem Afr.out {W W1 w2 w3 : World} {q : Nat} {s : PN} {M : Nat → Prop} (h : Afr W1 q M s w2) (hM : ∀ i, M i → i < W.heap.size) (hb : Bel W W1) (hl : W.heap.size < W1.heap.size) (hc : Ch (fun i => i = W.heap.size) w2 w3) : Afr W q M s w3 := by
  obtain ⟨M', h1, h2, h3⟩ := h
  refine ⟨M', h1.off hc (fun hm => ?_), fun i hi => or_to (h2 i hi) id (fun h => Nat.le_trans hb.size h), ?_⟩
  · rcases h2 _ hm with h' | h'
    · have := hM _ h'; omega
    · omega
  · exact ((hb.ch M).trans h3 (fun i hi => Or.inl hi)).off hc (Nat.le_refl _)
theorem bel_off {w w2 w3 : World} {B : Nat} (h : Bel w w2) (hc : Ch (fun i => i = B) w2 w3) (hB : w.heap.size ≤ B) : Bel w w3 := ((h.ch (fun i => w.heap.size ≤ i)).trans hc (fun i hi => by rw [hi]; exact Or.inl hB)).below (Nat.le_refl _) (fun i hi => hi)
set_option maxRecDepth 100000 in
set_option maxHeartbeats 2000000 in
theorem takeD {w : World} {q : Nat} {s : PN} {M : Nat → Prop} (h : Rf w q s M) (a b i : Int) (hi : i ≤ 9223372036854775807) : Calls Try.prog 30 #[.pointer (some ⟨q, 0, none⟩), .int .i64 a, .int .i64 b, .int .i64 i] w fun e w' => e = .returned (.tuple #[pv (s.takeR a b i).1, .int .i64 (s.takeR a b i).2]) ∧ Afr w q M (s.takeS a b i) w' := by
  have hbel : Bel w (w.alloc (.cells #[.int .i64 0, .int .i64 0, .string ⟨#[]⟩] 46)) := (Bel.refl w).alloc _
  have hr0 := at_new w (.cells #[.int .i64 0, .int .i64 0, .string ⟨#[]⟩] 46)
  have hsz : (w.alloc (.cells #[.int .i64 0, .int .i64 0, .string ⟨#[]⟩] 46)).heap.size = w.heap.size + 1 := by simp
  generalize hW : w.alloc (.cells #[.int .i64 0, .int .i64 0, .string ⟨#[]⟩] 46) = W at *
  have hN := h.bel hbel
  have HM := hide h.ltM
  have HK := hide (look_any hN a b i hi)
  have HB := hide hbel
  have HR := hide hr0
  have HN := hide hN
  have HH := hide h
  have HSZ := hide hsz
  clear hsz
  unfold PN.takeS PN.takeR
  by_cases he : (s.peek a b i).2 = 0
  · obtain ⟨ha, hb, hi0, hil, hii, hp1⟩ := peek_ok he
    obtain ⟨k, hk, hkl, e1, _⟩ := fndI_some hil
    have e : s.lookR a b i = ((k : Int), 0) := by unfold PN.lookR; rw [if_pos he, hk]
    rw [e] at HK
    simp only [he, if_true]
    have HPT := hide (partedD hN a b)
    by_cases hpt : s.parted a b = true
    · simp only [hpt, if_true]
      rw [hpt] at HPT
      generalize (s.peek a b i).1 = t at *
      clear h hN hbel hr0 ha hb hii hp1 he hpt e1 hk e
      go_enter Try.func30, Try.ntmps30
      go_wp2_with (first
        | (go_at_call 52; refine (unhide HK).mono ?_; rintro e w9 ⟨rfl, hw9⟩; rw [hw9]; clear hw9)
        | (go_at_call 42; refine (unhide HPT).mono ?_; rintro e w2 ⟨rfl, hb2⟩; have HB2 := hide hb2; clear hb2)
        | (refine store_pk rfl _ _ rfl ((unhide HB2).row (unhide HR)) pk0 rfl rfl ?_; intro W3 hr3 hc3))
      have r0 := cell_of (i := 0) hr3
      have r1 := cell_of (i := 1) hr3
      have r2 := cell_of (i := 2) hr3
      exact bodyPost_ret (v := .tuple #[pv pk0, .int .i64 3]) (by simp [results, Try.results30, go_sem, r0, r1, r2, pv, pk0]) rfl ⟨rfl, ((unhide HN).aft (unhide HB2)).out (unhide HM) (unhide HB) (by have := unhide HSZ; omega) hc3⟩
    · have hpt' : s.parted a b = false := by simpa using hpt
      simp only [hpt', if_true, Bool.false_eq_true, if_false]
      rw [hpt'] at HPT
      obtain ⟨ad, g, cap, c1, hg, hR, hcap⟩ := hN.list
      obtain rfl := hg (by omega)
      have rr : ∀ c u, (enc3 (a, b, (s.peek a b i).1))[c]? = some u → W.cell? ⟨g, k * 3 + c, none⟩ = some u := fun c u hu => by
        have := hR k hkl c u (by rw [e1]; rw [hp1, List.getElem?_eq_getElem hil] at hu; exact hu)
        simpa [E46] using this
      have HC := hide (And.intro c1 (And.intro (show W.cell? ⟨g, k * 3, none⟩ = some (.int .i64 a) from rr 0 _ rfl) (And.intro (rr 1 _ rfl) (rr 2 _ rfl))))
      have hkn : (k : Int) < s.L.length := by omega
      have HDR : Hid (∀ W3, Rf W3 q s M → Calls Try.prog 31 #[.pointer (some ⟨q, 0, none⟩), .int .i64 a, .int .i64 b, .int .i64 i] W3 fun e w' => e = .returned (.int .i64 0) ∧ Afr W3 q M (s.cut a b i.toNat) w') := hide (fun W3 hf => by
        have := dropD hf a b i hi
        rw [he, show s.dropS a b i = s.cut a b i.toNat from if_pos he] at this
        exact this)
      clear h hbel hr0 ha hb hii hp1 he hpt hpt' e1 hk e rr hR hg hN c1
      generalize (s.peek a b i).1 = t at *
      generalize s.L.length = n at *
      go_enter Try.func30, Try.ntmps30
      go_wp2_with (first
        | (go_at_call 52; refine (unhide HK).mono ?_; rintro e w9 ⟨rfl, hw9⟩; rw [hw9]; clear hw9)
        | (go_at_call 42; refine (unhide HPT).mono ?_; rintro e w2 ⟨rfl, hb2⟩; have d1 := hb2.cell (unhide HC).1; have d2 := hb2.cell (unhide HC).2.1; have d3 := hb2.cell (unhide HC).2.2.1; have d4 := hb2.cell (unhide HC).2.2.2; have HB2 := hide hb2; clear hb2)
        | (refine store_pk rfl _ _ rfl (at_new _ _) (a, b, t) rfl rfl ?_; intro W3 hr3 hc3; have hb3 : Bel W W3 := bel_off ((unhide HB2).trans ((Bel.refl w2).alloc (.cells #[.int .i64 0, .int .i64 0, .string ⟨#[]⟩] 46))) hc3 (unhide HB2).size; have HB3 := hide hb3; have HR3 := hide hr3; have HZ3 := hide (show w2.heap.size < W3.heap.size from lt_of_some hr3); clear hr3 hc3 hb3 d1 d2 d3 d4)
        | (go_at_call 31; refine ((unhide HDR) _ ((unhide HN).bel (unhide HB3))).mono ?_; rintro e w4 ⟨rfl, ha4⟩; have hr4 : w4.heap[w.heap.size]? = some (.cells #[.int .i64 0, .int .i64 0, .string ⟨#[]⟩] 46) := (by obtain ⟨_, _, _, hc⟩ := ha4; exact hc.out (unhide HM) (Nat.le_refl _) ((unhide HB3).row (unhide HR))); have hr5 : w4.heap[w2.heap.size]? = some (.cells #[.int .i64 a, .int .i64 b, .string t] 46) := (by obtain ⟨_, _, _, hc⟩ := ha4; exact hc.out (unhide HM) (Nat.le_trans (unhide HB).size (unhide HB2).size) (unhide HR3)); have d1 : w4.cell? ⟨w2.heap.size, 0, none⟩ = some (.int .i64 a) := cell_of hr5; have d2 : w4.cell? ⟨w2.heap.size, 1, none⟩ = some (.int .i64 b) := cell_of hr5; have d3 : w4.cell? ⟨w2.heap.size, 2, none⟩ = some (.string t) := cell_of hr5; have HR4 := hide hr4; have HA4 := hide ha4; clear ha4 hr4 hr5)
        | (refine store_pk rfl _ _ rfl (unhide HR4) (a, b, t) rfl rfl ?_; intro W5 hr5 hc5))
      have r0 := cell_of (i := 0) hr5
      have r1 := cell_of (i := 1) hr5
      have r2 := cell_of (i := 2) hr5
      exact bodyPost_ret (v := .tuple #[pv (a, b, t), .int .i64 0]) (by simp [results, Try.results30, go_sem, r0, r1, r2, pv]) rfl ⟨rfl, (unhide HA4).out (unhide HM) ((unhide HB).trans (unhide HB3)) (by have := (unhide HB3).size; have := unhide HSZ; omega) hc5⟩
  · have e : s.lookR a b i = (-1, (s.peek a b i).2) := if_neg he
    rw [e] at HK
    simp only [he, if_false]
    generalize (s.peek a b i).1 = t at *
    generalize (s.peek a b i).2 = er at *
    have her : (er == 0) = false := by simpa using he
    clear h hN hbel hr0 he e
    go_enter Try.func30, Try.ntmps30
    go_wp2_with (first
      | (go_at_call 52; refine (unhide HK).mono ?_; rintro e w9 ⟨rfl, hw9⟩; rw [hw9]; clear hw9)
      | (refine store_pk rfl _ _ rfl (unhide HR) pk0 rfl rfl ?_; intro W3 hr3 hc3))
    have r0 := cell_of (i := 0) hr3
    have r1 := cell_of (i := 1) hr3
    have r2 := cell_of (i := 2) hr3
    exact bodyPost_ret (v := .tuple #[pv pk0, .int .i64 er]) (by simp [results, Try.results30, go_sem, r0, r1, r2, pv, pk0]) rfl ⟨rfl, ((unhide HN).aft (Bel.refl W)).out (unhide HM) (unhide HB) (by have := unhide HSZ; omega) hc3⟩
end Go.Proofs.Ytbcgikkdhfbphaa
