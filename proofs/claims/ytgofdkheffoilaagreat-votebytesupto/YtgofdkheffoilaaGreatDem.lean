/- Entries that may be, as the document has them. -/
import Derived.Test.YtgofdkheffoilaaGreatMrg
namespace Go.Proofs.YtgofdkheffoilaaGreat
open Go.RowKit Go.Maps
set_option maxRecDepth 100000 in
set_option maxHeartbeats 8000000 in
theorem dents_any {W : World} {a : Option Addr} {l : List (GE × GA)} (h : Sl EG W a l) (hm : Gm W l) (cap : Nat) (lo hi : Int) (hn : l.length ≤ 9000000000000000000) (hq : ∀ x ∈ l, x.1.m.length ≤ 9000000000000000000) (h0 : ∀ x ∈ l, 0 ≤ x.1.k) : Calls Tryz.prog 39 #[.slice a l.length cap, .int .u64 lo, .int .u64 hi] W fun e w' => e = .returned (.bool (mayEs lo hi (l.map (·.1)))) ∧ Bel W w' := by
  obtain ⟨g, off, hg, hR⟩ := h
  generalize hn2 : l.length = n at *
  have HN := hide hn2
  have HG := hide hg
  have HR := hide hR
  have HM := hide hm
  have HQ := hide hq
  have H0 := hide h0
  clear hn2 hg hR hm hq h0
  go_enter Tryz.func39, Tryz.ntmps39
  go_wp2_with fail
  go_loopw [1, 7] (fun vb vk wr => ∃ (k : Nat) (b : Int), k ≤ n ∧ vk = .int .i64 k ∧ vb = .int .u64 b ∧ Bel W wr ∧ Hid (mayEs lo hi (l.map (·.1)) = mayEs b hi ((l.drop k).map (·.1)))) (fun _ vk _ => n - (intOf vk).toNat)
  case atStart => exact ⟨0, lo, Nat.zero_le _, rfl, rfl, Bel.refl _, hide rfl⟩
  case round =>
    obtain ⟨k, b, hk, rfl, rfl, hb, HE⟩ := hrel
    by_cases hlt : k < n
    · have hkl : k < l.length := by rw [unhide HN]; exact hlt
      obtain rfl := (unhide HG) (by omega)
      have hkn : (k : Int) < n := by omega
      obtain ⟨r0, r1, r2, r3⟩ := EG_cell (unhide HR) k hkl
      have r0 := hb.cell r0
      have r1 := hb.cell r1
      have r2 := hb.cell r2
      have r3 := hb.cell r3
      have HC : Hid (∀ W', Bel W W' → Calls Tryz.prog 38 #[.slice l[k].2.a l[k].1.m.length l[k].2.c] W' fun e w' => e = .returned (.bool (aids 0 l[k].1.m)) ∧ ∃ q, w' = W'.drewN q) := hide (fun W' hb' => dids_any (((unhide HM) _ (List.getElem_mem hkl)).bel hb') l[k].2.c ((unhide HQ) _ (List.getElem_mem hkl)))
      have HD : Hid (mayEs b hi ((l.drop k).map (·.1)) = ((!(l[k].1.t == 0) && !decide (l[k].1.t < b) && !decide (hi < l[k].1.t) && mayE l[k].1) && mayEs l[k].1.t hi ((l.drop (k + 1)).map (·.1)))) := hide (by rw [List.drop_eq_getElem_cons hkl]; rfl)
      have hk0 := (unhide H0) _ (List.getElem_mem hkl)
      generalize l[k] = x at *
      obtain ⟨⟨t, kd, d, m⟩, ax, cx⟩ := x
      simp only at r0 r1 r2 r3 HC HD hk0
      have HME : Hid (mayE ⟨t, kd, d, m⟩ = (if kd = 0 then decide (m.length = 0) else if kd = 1 then decide (m.length = 0) && d.toList.isEmpty else if kd = 2 then (decide (0 < m.length) && aids 0 m) && d.toList.isEmpty else false)) := hide rfl
      generalize mayE ⟨t, kd, d, m⟩ = me at *
      generalize aids 0 m = am at *
      generalize m.length = nm at *
      have HB := hide hb
      clear hb HM HQ H0 HR
      by_cases h1 : t = 0
      · subst h1
        have HF : Hid (mayEs lo hi (l.map (·.1)) = false) := hide (by rw [unhide HE, unhide HD]; simp)
        clear HC
        go_wp2_with fail
        go_ret
        exact ⟨by rw [unhide HF]; rfl, (unhide HB).alloc _⟩
      have e1 : (t == 0) = false := beq_eq_false_iff_ne.2 h1
      by_cases h2 : t < b
      · clear HC
        have HF : Hid (mayEs lo hi (l.map (·.1)) = false) := hide (by rw [unhide HE, unhide HD, decide_eq_true h2]; simp)
        go_wp2_with (first
          | (go_at_call 38; refine ((unhide HC) _ ((unhide HB).alloc _)).mono ?_; rintro e w9 ⟨rfl, q9, hq9⟩; have HB9 := hide (((unhide HB).alloc (.cells #[.int .u64 t, .int .u8 kd, .string d, .slice ax nm cx] 72)).drewN q9); rw [← hq9] at HB9; have z0 : w9.cell? ⟨wr.heap.size, 0, none⟩ = some (.int .u64 t) := (by rw [hq9]; exact ((Bel.refl _).drewN _).cell (cell_of (at_new wr _))); have z1 : w9.cell? ⟨wr.heap.size, 1, none⟩ = some (.int .u8 kd) := (by rw [hq9]; exact ((Bel.refl _).drewN _).cell (cell_of (at_new wr _))); have z3 : w9.cell? ⟨wr.heap.size, 3, none⟩ = some (.slice ax nm cx) := (by rw [hq9]; exact ((Bel.refl _).drewN _).cell (cell_of (at_new wr _))); clear hq9)
          | go_guarded)
        go_ret
        exact ⟨by rw [unhide HF]; rfl, by first | exact unhide HB9 | exact (unhide HB).alloc _⟩
      by_cases h3 : hi < t
      · clear HC
        have HF : Hid (mayEs lo hi (l.map (·.1)) = false) := hide (by rw [unhide HE, unhide HD, decide_eq_true h3]; simp)
        go_wp2_with (first
          | (go_at_call 38; refine ((unhide HC) _ ((unhide HB).alloc _)).mono ?_; rintro e w9 ⟨rfl, q9, hq9⟩; have HB9 := hide (((unhide HB).alloc (.cells #[.int .u64 t, .int .u8 kd, .string d, .slice ax nm cx] 72)).drewN q9); rw [← hq9] at HB9; have z0 : w9.cell? ⟨wr.heap.size, 0, none⟩ = some (.int .u64 t) := (by rw [hq9]; exact ((Bel.refl _).drewN _).cell (cell_of (at_new wr _))); have z1 : w9.cell? ⟨wr.heap.size, 1, none⟩ = some (.int .u8 kd) := (by rw [hq9]; exact ((Bel.refl _).drewN _).cell (cell_of (at_new wr _))); have z3 : w9.cell? ⟨wr.heap.size, 3, none⟩ = some (.slice ax nm cx) := (by rw [hq9]; exact ((Bel.refl _).drewN _).cell (cell_of (at_new wr _))); clear hq9)
          | go_guarded)
        go_ret
        exact ⟨by rw [unhide HF]; rfl, by first | exact unhide HB9 | exact (unhide HB).alloc _⟩
      have e2 := decide_eq_false h2
      have e3 := decide_eq_false h3
      by_cases k2 : 2 < kd
      · clear HC
        have HF : Hid (mayEs lo hi (l.map (·.1)) = false) := hide (by rw [unhide HE, unhide HD, e1, e2, e3, unhide HME]; simp [(show ¬ kd = 0 by omega), (show ¬ kd = 1 by omega), (show ¬ kd = 2 by omega)])
        go_wp2_with (first
          | (go_at_call 38; refine ((unhide HC) _ ((unhide HB).alloc _)).mono ?_; rintro e w9 ⟨rfl, q9, hq9⟩; have HB9 := hide (((unhide HB).alloc (.cells #[.int .u64 t, .int .u8 kd, .string d, .slice ax nm cx] 72)).drewN q9); rw [← hq9] at HB9; have z0 : w9.cell? ⟨wr.heap.size, 0, none⟩ = some (.int .u64 t) := (by rw [hq9]; exact ((Bel.refl _).drewN _).cell (cell_of (at_new wr _))); have z1 : w9.cell? ⟨wr.heap.size, 1, none⟩ = some (.int .u8 kd) := (by rw [hq9]; exact ((Bel.refl _).drewN _).cell (cell_of (at_new wr _))); have z3 : w9.cell? ⟨wr.heap.size, 3, none⟩ = some (.slice ax nm cx) := (by rw [hq9]; exact ((Bel.refl _).drewN _).cell (cell_of (at_new wr _))); clear hq9)
          | go_guarded)
        go_ret
        exact ⟨by rw [unhide HF]; rfl, by first | exact unhide HB9 | exact (unhide HB).alloc _⟩
      cases hd : d.toList.isEmpty
      · by_cases k0 : kd = 0
        · subst k0
          by_cases hz : nm = 0
          · subst hz
            clear HC
            have HF : Hid (mayEs lo hi (l.map (·.1)) = mayEs t hi ((l.drop (k + 1)).map (·.1))) := hide (by rw [unhide HE, unhide HD, e1, e2, e3, unhide HME]; simp [])
            go_wp2_with (first
              | (go_at_call 38; refine ((unhide HC) _ ((unhide HB).alloc _)).mono ?_; rintro e w9 ⟨rfl, q9, hq9⟩; have HB9 := hide (((unhide HB).alloc (.cells #[.int .u64 t, .int .u8 0, .string d, .slice ax nm cx] 72)).drewN q9); rw [← hq9] at HB9; have z0 : w9.cell? ⟨wr.heap.size, 0, none⟩ = some (.int .u64 t) := (by rw [hq9]; exact ((Bel.refl _).drewN _).cell (cell_of (at_new wr _))); have z1 : w9.cell? ⟨wr.heap.size, 1, none⟩ = some (.int .u8 0) := (by rw [hq9]; exact ((Bel.refl _).drewN _).cell (cell_of (at_new wr _))); have z3 : w9.cell? ⟨wr.heap.size, 3, none⟩ = some (.slice ax nm cx) := (by rw [hq9]; exact ((Bel.refl _).drewN _).cell (cell_of (at_new wr _))); clear hq9)
              | go_guarded)
            go_roundw
            case rel => exact ⟨k + 1, t, by omega, by go_num, rfl, by first | exact unhide HB9 | exact (unhide HB).alloc _, HF⟩
            case measure => simp [intOf]; omega
          · have hz1 : ((nm : Int) == 0) = false := beq_eq_false_iff_ne.2 (by omega)
            have hz2 : (0 : Int) < nm := by omega
            clear HC
            have HF : Hid (mayEs lo hi (l.map (·.1)) = false) := hide (by rw [unhide HE, unhide HD, e1, e2, e3, unhide HME]; simp [hz])
            go_wp2_with (first
              | (go_at_call 38; refine ((unhide HC) _ ((unhide HB).alloc _)).mono ?_; rintro e w9 ⟨rfl, q9, hq9⟩; have HB9 := hide (((unhide HB).alloc (.cells #[.int .u64 t, .int .u8 0, .string d, .slice ax nm cx] 72)).drewN q9); rw [← hq9] at HB9; have z0 : w9.cell? ⟨wr.heap.size, 0, none⟩ = some (.int .u64 t) := (by rw [hq9]; exact ((Bel.refl _).drewN _).cell (cell_of (at_new wr _))); have z1 : w9.cell? ⟨wr.heap.size, 1, none⟩ = some (.int .u8 0) := (by rw [hq9]; exact ((Bel.refl _).drewN _).cell (cell_of (at_new wr _))); have z3 : w9.cell? ⟨wr.heap.size, 3, none⟩ = some (.slice ax nm cx) := (by rw [hq9]; exact ((Bel.refl _).drewN _).cell (cell_of (at_new wr _))); clear hq9)
              | go_guarded)
            go_ret
            exact ⟨by rw [unhide HF]; rfl, by first | exact unhide HB9 | exact (unhide HB).alloc _⟩
        · have k0b : (kd == 0) = false := beq_eq_false_iff_ne.2 k0
          clear HC
          have HF : Hid (mayEs lo hi (l.map (·.1)) = false) := hide (by rw [unhide HE, unhide HD, e1, e2, e3, unhide HME]; simp [k0, hd])
          go_wp2_with (first
            | (go_at_call 38; refine ((unhide HC) _ ((unhide HB).alloc _)).mono ?_; rintro e w9 ⟨rfl, q9, hq9⟩; have HB9 := hide (((unhide HB).alloc (.cells #[.int .u64 t, .int .u8 kd, .string d, .slice ax nm cx] 72)).drewN q9); rw [← hq9] at HB9; have z0 : w9.cell? ⟨wr.heap.size, 0, none⟩ = some (.int .u64 t) := (by rw [hq9]; exact ((Bel.refl _).drewN _).cell (cell_of (at_new wr _))); have z1 : w9.cell? ⟨wr.heap.size, 1, none⟩ = some (.int .u8 kd) := (by rw [hq9]; exact ((Bel.refl _).drewN _).cell (cell_of (at_new wr _))); have z3 : w9.cell? ⟨wr.heap.size, 3, none⟩ = some (.slice ax nm cx) := (by rw [hq9]; exact ((Bel.refl _).drewN _).cell (cell_of (at_new wr _))); clear hq9)
            | go_guarded)
          go_ret
          exact ⟨by rw [unhide HF]; rfl, by first | exact unhide HB9 | exact (unhide HB).alloc _⟩
      · by_cases k0 : kd = 0
        · subst k0
          by_cases hz : nm = 0
          · subst hz
            clear HC
            have HF : Hid (mayEs lo hi (l.map (·.1)) = mayEs t hi ((l.drop (k + 1)).map (·.1))) := hide (by rw [unhide HE, unhide HD, e1, e2, e3, unhide HME]; simp [])
            go_wp2_with (first
              | (go_at_call 38; refine ((unhide HC) _ ((unhide HB).alloc _)).mono ?_; rintro e w9 ⟨rfl, q9, hq9⟩; have HB9 := hide (((unhide HB).alloc (.cells #[.int .u64 t, .int .u8 0, .string d, .slice ax nm cx] 72)).drewN q9); rw [← hq9] at HB9; have z0 : w9.cell? ⟨wr.heap.size, 0, none⟩ = some (.int .u64 t) := (by rw [hq9]; exact ((Bel.refl _).drewN _).cell (cell_of (at_new wr _))); have z1 : w9.cell? ⟨wr.heap.size, 1, none⟩ = some (.int .u8 0) := (by rw [hq9]; exact ((Bel.refl _).drewN _).cell (cell_of (at_new wr _))); have z3 : w9.cell? ⟨wr.heap.size, 3, none⟩ = some (.slice ax nm cx) := (by rw [hq9]; exact ((Bel.refl _).drewN _).cell (cell_of (at_new wr _))); clear hq9)
              | go_guarded)
            go_roundw
            case rel => exact ⟨k + 1, t, by omega, by go_num, rfl, by first | exact unhide HB9 | exact (unhide HB).alloc _, HF⟩
            case measure => simp [intOf]; omega
          · have hz1 : ((nm : Int) == 0) = false := beq_eq_false_iff_ne.2 (by omega)
            have hz2 : (0 : Int) < nm := by omega
            clear HC
            have HF : Hid (mayEs lo hi (l.map (·.1)) = false) := hide (by rw [unhide HE, unhide HD, e1, e2, e3, unhide HME]; simp [hz])
            go_wp2_with (first
              | (go_at_call 38; refine ((unhide HC) _ ((unhide HB).alloc _)).mono ?_; rintro e w9 ⟨rfl, q9, hq9⟩; have HB9 := hide (((unhide HB).alloc (.cells #[.int .u64 t, .int .u8 0, .string d, .slice ax nm cx] 72)).drewN q9); rw [← hq9] at HB9; have z0 : w9.cell? ⟨wr.heap.size, 0, none⟩ = some (.int .u64 t) := (by rw [hq9]; exact ((Bel.refl _).drewN _).cell (cell_of (at_new wr _))); have z1 : w9.cell? ⟨wr.heap.size, 1, none⟩ = some (.int .u8 0) := (by rw [hq9]; exact ((Bel.refl _).drewN _).cell (cell_of (at_new wr _))); have z3 : w9.cell? ⟨wr.heap.size, 3, none⟩ = some (.slice ax nm cx) := (by rw [hq9]; exact ((Bel.refl _).drewN _).cell (cell_of (at_new wr _))); clear hq9)
              | go_guarded)
            go_ret
            exact ⟨by rw [unhide HF]; rfl, by first | exact unhide HB9 | exact (unhide HB).alloc _⟩
        · by_cases k1 : kd = 1
          · subst k1
            by_cases hz : nm = 0
            · subst hz
              clear HC
              have HF : Hid (mayEs lo hi (l.map (·.1)) = mayEs t hi ((l.drop (k + 1)).map (·.1))) := hide (by rw [unhide HE, unhide HD, e1, e2, e3, unhide HME]; simp [hd])
              go_wp2_with (first
                | (go_at_call 38; refine ((unhide HC) _ ((unhide HB).alloc _)).mono ?_; rintro e w9 ⟨rfl, q9, hq9⟩; have HB9 := hide (((unhide HB).alloc (.cells #[.int .u64 t, .int .u8 1, .string d, .slice ax nm cx] 72)).drewN q9); rw [← hq9] at HB9; have z0 : w9.cell? ⟨wr.heap.size, 0, none⟩ = some (.int .u64 t) := (by rw [hq9]; exact ((Bel.refl _).drewN _).cell (cell_of (at_new wr _))); have z1 : w9.cell? ⟨wr.heap.size, 1, none⟩ = some (.int .u8 1) := (by rw [hq9]; exact ((Bel.refl _).drewN _).cell (cell_of (at_new wr _))); have z3 : w9.cell? ⟨wr.heap.size, 3, none⟩ = some (.slice ax nm cx) := (by rw [hq9]; exact ((Bel.refl _).drewN _).cell (cell_of (at_new wr _))); clear hq9)
                | go_guarded)
              go_roundw
              case rel => exact ⟨k + 1, t, by omega, by go_num, rfl, by first | exact unhide HB9 | exact (unhide HB).alloc _, HF⟩
              case measure => simp [intOf]; omega
            · have hz1 : ((nm : Int) == 0) = false := beq_eq_false_iff_ne.2 (by omega)
              have hz2 : (0 : Int) < nm := by omega
              clear HC
              have HF : Hid (mayEs lo hi (l.map (·.1)) = false) := hide (by rw [unhide HE, unhide HD, e1, e2, e3, unhide HME]; simp [hz])
              go_wp2_with (first
                | (go_at_call 38; refine ((unhide HC) _ ((unhide HB).alloc _)).mono ?_; rintro e w9 ⟨rfl, q9, hq9⟩; have HB9 := hide (((unhide HB).alloc (.cells #[.int .u64 t, .int .u8 1, .string d, .slice ax nm cx] 72)).drewN q9); rw [← hq9] at HB9; have z0 : w9.cell? ⟨wr.heap.size, 0, none⟩ = some (.int .u64 t) := (by rw [hq9]; exact ((Bel.refl _).drewN _).cell (cell_of (at_new wr _))); have z1 : w9.cell? ⟨wr.heap.size, 1, none⟩ = some (.int .u8 1) := (by rw [hq9]; exact ((Bel.refl _).drewN _).cell (cell_of (at_new wr _))); have z3 : w9.cell? ⟨wr.heap.size, 3, none⟩ = some (.slice ax nm cx) := (by rw [hq9]; exact ((Bel.refl _).drewN _).cell (cell_of (at_new wr _))); clear hq9)
                | go_guarded)
              go_ret
              exact ⟨by rw [unhide HF]; rfl, by first | exact unhide HB9 | exact (unhide HB).alloc _⟩
          · obtain rfl : kd = 2 := by omega
            by_cases hz : nm = 0
            · subst hz
              clear HC
              have HF : Hid (mayEs lo hi (l.map (·.1)) = false) := hide (by rw [unhide HE, unhide HD, e1, e2, e3, unhide HME]; simp [])
              go_wp2_with (first
                | (go_at_call 38; refine ((unhide HC) _ ((unhide HB).alloc _)).mono ?_; rintro e w9 ⟨rfl, q9, hq9⟩; have HB9 := hide (((unhide HB).alloc (.cells #[.int .u64 t, .int .u8 2, .string d, .slice ax nm cx] 72)).drewN q9); rw [← hq9] at HB9; have z0 : w9.cell? ⟨wr.heap.size, 0, none⟩ = some (.int .u64 t) := (by rw [hq9]; exact ((Bel.refl _).drewN _).cell (cell_of (at_new wr _))); have z1 : w9.cell? ⟨wr.heap.size, 1, none⟩ = some (.int .u8 2) := (by rw [hq9]; exact ((Bel.refl _).drewN _).cell (cell_of (at_new wr _))); have z3 : w9.cell? ⟨wr.heap.size, 3, none⟩ = some (.slice ax nm cx) := (by rw [hq9]; exact ((Bel.refl _).drewN _).cell (cell_of (at_new wr _))); clear hq9)
                | go_guarded)
              go_ret
              exact ⟨by rw [unhide HF]; rfl, by first | exact unhide HB9 | exact (unhide HB).alloc _⟩
            · have hz1 : ((nm : Int) == 0) = false := beq_eq_false_iff_ne.2 (by omega)
              have hz2 : (0 : Int) < nm := by omega
              cases am
              · have HF : Hid (mayEs lo hi (l.map (·.1)) = false) := hide (by rw [unhide HE, unhide HD, e1, e2, e3, unhide HME]; simp [])
                go_wp2_with (first
                  | (go_at_call 38; refine ((unhide HC) _ ((unhide HB).alloc _)).mono ?_; rintro e w9 ⟨rfl, q9, hq9⟩; have HB9 := hide (((unhide HB).alloc (.cells #[.int .u64 t, .int .u8 2, .string d, .slice ax nm cx] 72)).drewN q9); rw [← hq9] at HB9; have z0 : w9.cell? ⟨wr.heap.size, 0, none⟩ = some (.int .u64 t) := (by rw [hq9]; exact ((Bel.refl _).drewN _).cell (cell_of (at_new wr _))); have z1 : w9.cell? ⟨wr.heap.size, 1, none⟩ = some (.int .u8 2) := (by rw [hq9]; exact ((Bel.refl _).drewN _).cell (cell_of (at_new wr _))); have z3 : w9.cell? ⟨wr.heap.size, 3, none⟩ = some (.slice ax nm cx) := (by rw [hq9]; exact ((Bel.refl _).drewN _).cell (cell_of (at_new wr _))); clear hq9)
                  | go_guarded)
                go_ret
                exact ⟨by rw [unhide HF]; rfl, by first | exact unhide HB9 | exact (unhide HB).alloc _⟩
              · have HF : Hid (mayEs lo hi (l.map (·.1)) = mayEs t hi ((l.drop (k + 1)).map (·.1))) := hide (by rw [unhide HE, unhide HD, e1, e2, e3, unhide HME]; simp [hd, (show 0 < nm by omega)])
                go_wp2_with (first
                  | (go_at_call 38; refine ((unhide HC) _ ((unhide HB).alloc _)).mono ?_; rintro e w9 ⟨rfl, q9, hq9⟩; have HB9 := hide (((unhide HB).alloc (.cells #[.int .u64 t, .int .u8 2, .string d, .slice ax nm cx] 72)).drewN q9); rw [← hq9] at HB9; have z0 : w9.cell? ⟨wr.heap.size, 0, none⟩ = some (.int .u64 t) := (by rw [hq9]; exact ((Bel.refl _).drewN _).cell (cell_of (at_new wr _))); have z1 : w9.cell? ⟨wr.heap.size, 1, none⟩ = some (.int .u8 2) := (by rw [hq9]; exact ((Bel.refl _).drewN _).cell (cell_of (at_new wr _))); have z3 : w9.cell? ⟨wr.heap.size, 3, none⟩ = some (.slice ax nm cx) := (by rw [hq9]; exact ((Bel.refl _).drewN _).cell (cell_of (at_new wr _))); clear hq9)
                  | go_guarded)
                go_roundw
                case rel => exact ⟨k + 1, t, by omega, by go_num, rfl, by first | exact unhide HB9 | exact (unhide HB).alloc _, HF⟩
                case measure => simp [intOf]; omega
    · obtain rfl : k = n := by omega
      have HF : Hid (mayEs lo hi (l.map (·.1)) = true) := hide (by rw [unhide HE, List.drop_of_length_le (by rw [unhide HN]; omega)]; rfl)
      go_wp2_with fail
      go_ret
      exact ⟨by rw [unhide HF]; rfl, hb⟩
end Go.Proofs.YtgofdkheffoilaaGreat
