/- Entries with members: in memory; mayEntry, mayEntries; the document's id, ids. -/
import Derived.Test.YthekbhliokcpcaaGreatNclo
namespace Go.Proofs.YthekbhliokcpcaaGreat
open Go.RowKit Go.Maps
/-- An entry. -/
structure GE where
  t : Int
  k : Int
  d : ByteArray
  m : List Int
/-- Where a list lies. -/
structure GA where
  a : Option Addr
  c : Nat
def encG (x : GE × GA) : List Value := [.int .u64 x.1.t, .int .u8 x.1.k, .string x.1.d, .slice x.2.a x.1.m.length x.2.c]
/-- Rows of entries. -/
def EG : El (GE × GA) := { enc := encG, k := 4, e := 53, t := 27, bytes := 56, z := .agg #[.int .u64 0, .int .u8 0, .string ⟨#[]⟩, .slice none 0 0], hk := by decide, len := fun _ => rfl, one := fun x u hu => by simp [encG] at hu; rcases hu with rfl | rfl | rfl | rfl <;> rfl, ht := Tryz.underlying27, hi := by kernel_rfl, hz := rfl, hb := by decide }
theorem EG_cell {W : World} {g off : Nat} {l : List (GE × GA)} (h : EG.R W g off l) (j : Nat) (hj : j < l.length) : W.cell? ⟨g, off + j * 4, none⟩ = some (.int .u64 l[j].1.t) ∧ W.cell? ⟨g, off + j * 4 + 1, none⟩ = some (.int .u8 l[j].1.k) ∧ W.cell? ⟨g, off + j * 4 + 2, none⟩ = some (.string l[j].1.d) ∧ W.cell? ⟨g, off + j * 4 + 3, none⟩ = some (.slice l[j].2.a l[j].1.m.length l[j].2.c) := by
  have h0 := h j hj 0 _ rfl
  have h1 := h j hj 1 _ rfl
  have h2 := h j hj 2 _ rfl
  have h3 := h j hj 3 _ rfl
  exact ⟨by simpa [EG] using h0, by simpa [EG] using h1, by simpa [EG] using h2, by simpa [EG] using h3⟩
/-- The entries' members are read as they are. -/
def Gm (W : World) (L : List (GE × GA)) : Prop := ∀ x ∈ L, Sl E3 W x.2.a x.1.m
theorem Gm.bel {W W' : World} {L : List (GE × GA)} (h : Gm W L) (hb : Bel W W') : Gm W' L := fun x hx => (h x hx).bel hb
theorem ba_zero (s : ByteArray) : s = ByteArray.empty ↔ s.size = 0 := ⟨fun h => by rw [h]; rfl, fun h => by
  have h2 : s.data.toList.length = 0 := h
  have h3 := List.eq_nil_of_length_eq_zero h2
  cases s with
  | mk d => simp at h3; rw [h3]; rfl⟩
/-- An entry that may be. -/
def mayE (e : GE) : Bool := if e.k = 0 then decide (e.m.length = 0) else if e.k = 1 then decide (e.m.length = 0) && e.d.toList.isEmpty else if e.k = 2 then (decide (0 < e.m.length) && aids 0 e.m) && e.d.toList.isEmpty else false
set_option maxRecDepth 100000 in
set_option maxHeartbeats 1000000 in
theorem mayEntry_any {W : World} (x : GE × GA) (h : Sl E3 W x.2.a x.1.m) (hl : x.1.m.length ≤ 9000000000000000000) : Calls Tryz.prog 187 #[.agg (encG x).toArray] W fun e w' => e = .returned (.bool (mayE x.1)) ∧ Bel W w' := by
  have HM : Hid (∀ W', Bel W W' → Calls Tryz.prog 152 #[.slice x.2.a x.1.m.length x.2.c] W' fun e w' => e = .returned (.bool (decide (0 < x.1.m.length) && aids 0 x.1.m)) ∧ w' = W') := hide (fun W' hb => areMem_any (h.bel hb) x.2.c hl)
  obtain ⟨⟨t, k, d, m⟩, a, c⟩ := x
  unfold encG mayE
  simp only at HM ⊢
  clear h hl
  generalize aids 0 m = am at *
  generalize m.length = n at *
  by_cases h0 : k = 0
  · subst h0
    rw [if_pos rfl]
    by_cases hn : n = 0
    · subst hn
      go_enter Tryz.func187, Tryz.ntmps187
      go_wp2_with fail
      go_ret
      exact ⟨rfl, (Bel.refl W).alloc _⟩
    · have hz : ((n : Int) == 0) = false := beq_eq_false_iff_ne.2 (by omega)
      rw [decide_eq_false hn]
      clear hn
      go_enter Tryz.func187, Tryz.ntmps187
      go_wp2_with fail
      go_ret
      exact ⟨rfl, (Bel.refl W).alloc _⟩
  · have k0 : (k == 0) = false := beq_eq_false_iff_ne.2 h0
    rw [if_neg h0]
    by_cases h1 : k = 1
    · subst h1
      rw [if_pos rfl]
      by_cases hn : n = 0
      · subst hn
        go_enter Tryz.func187, Tryz.ntmps187
        go_wp2_with fail
        go_ret
        exact ⟨rfl, (Bel.refl W).alloc _⟩
      · have hz : ((n : Int) == 0) = false := beq_eq_false_iff_ne.2 (by omega)
        rw [decide_eq_false hn]
        clear hn
        go_enter Tryz.func187, Tryz.ntmps187
        go_wp2_with fail
        go_ret
        exact ⟨rfl, (Bel.refl W).alloc _⟩
    · have k1 : (k == 1) = false := beq_eq_false_iff_ne.2 h1
      rw [if_neg h1]
      by_cases h2 : k = 2
      · subst h2
        rw [if_pos rfl]
        cases hq : (decide (0 < n) && am) with
        | true =>
          rw [hq] at HM
          clear hq h0 h1 k0 k1
          go_enter Tryz.func187, Tryz.ntmps187
          go_wp2_with (first
            | (go_at_call 152; refine ((unhide HM) _ ((Bel.refl W).alloc _)).mono ?_; rintro e w9 ⟨rfl, hw9⟩; rw [hw9]; clear hw9))
          go_ret
          exact ⟨rfl, (Bel.refl W).alloc _⟩
        | false =>
          rw [hq] at HM
          clear hq h0 h1 k0 k1
          go_enter Tryz.func187, Tryz.ntmps187
          go_wp2_with (first
            | (go_at_call 152; refine ((unhide HM) _ ((Bel.refl W).alloc _)).mono ?_; rintro e w9 ⟨rfl, hw9⟩; rw [hw9]; clear hw9))
          go_ret
          exact ⟨rfl, (Bel.refl W).alloc _⟩
      · have k2 : (k == 2) = false := beq_eq_false_iff_ne.2 h2
        rw [if_neg h2]
        go_enter Tryz.func187, Tryz.ntmps187
        go_wp2_with fail
        go_ret
        exact ⟨rfl, (Bel.refl W).alloc _⟩
/-- Entries that may be, with terms that do not fall between two others. -/
def mayEs (lo hi : Int) : List GE → Bool
  | [] => true
  | e :: l => (!(e.t == 0) && !decide (e.t < lo) && !decide (hi < e.t) && mayE e) && mayEs e.t hi l
set_option maxRecDepth 100000 in
set_option maxHeartbeats 2000000 in
theorem mayEntries_any {W : World} {a : Option Addr} {l : List (GE × GA)} (h : Sl EG W a l) (hm : Gm W l) (cap : Nat) (lo hi : Int) (hn : l.length ≤ 9000000000000000000) (hq : ∀ x ∈ l, x.1.m.length ≤ 9000000000000000000) : Calls Tryz.prog 151 #[.slice a l.length cap, .int .u64 lo, .int .u64 hi] W fun e w' => e = .returned (.bool (mayEs lo hi (l.map (·.1)))) ∧ Bel W w' := by
  obtain ⟨g, off, hg, hR⟩ := h
  generalize hn2 : l.length = n at *
  have HN := hide hn2
  have HG := hide hg
  have HR := hide hR
  have HM := hide hm
  have HQ := hide hq
  clear hn2 hg hR hm hq
  go_enter Tryz.func151, Tryz.ntmps151
  go_wp2_with fail
  go_loopw [1, 11] (fun vb vk wr => ∃ (k : Nat) (b : Int), k ≤ n ∧ vk = .int .i64 k ∧ vb = .int .u64 b ∧ Bel W wr ∧ Hid (mayEs lo hi (l.map (·.1)) = mayEs b hi ((l.drop k).map (·.1)))) (fun _ vk _ => n - (intOf vk).toNat)
  case atStart => exact ⟨0, lo, Nat.zero_le _, rfl, rfl, Bel.refl _, hide rfl⟩
  case round =>
    obtain ⟨k, b, hk, rfl, rfl, hb, HE⟩ := hrel
    by_cases hlt : k < n
    · have hkl : k < l.length := by rw [unhide HN]; exact hlt
      obtain rfl := (unhide HG) (by omega)
      have hkn : (k : Int) < n := by omega
      obtain ⟨r0, r1, r2, r3⟩ := EG_cell (unhide HR) k hkl
      have r0 := hb.cell r0
      have r1 := hb.cell r1
      have r2 := hb.cell r2
      have r3 := hb.cell r3
      have HC : Hid (∀ W', Bel W W' → Calls Tryz.prog 187 #[.agg (encG l[k]).toArray] W' fun e w' => e = .returned (.bool (mayE l[k].1)) ∧ Bel W' w') := hide (fun W' hb' => mayEntry_any l[k] (((unhide HM) _ (List.getElem_mem hkl)).bel hb') ((unhide HQ) _ (List.getElem_mem hkl)))
      have HD : Hid (mayEs b hi ((l.drop k).map (·.1)) = ((!(l[k].1.t == 0) && !decide (l[k].1.t < b) && !decide (hi < l[k].1.t) && mayE l[k].1) && mayEs l[k].1.t hi ((l.drop (k + 1)).map (·.1)))) := hide (by rw [List.drop_eq_getElem_cons hkl]; rfl)
      generalize l[k] = x at *
      obtain ⟨⟨t, kd, d, m⟩, ax, cx⟩ := x
      unfold encG at HC
      simp only at r0 r1 r2 r3 HC HD
      generalize mayE ⟨t, kd, d, m⟩ = me at *
      generalize m.length = nm at *
      have HB := hide hb
      clear hb
      by_cases h1 : t = 0
      · have HF : Hid (mayEs lo hi (l.map (·.1)) = false) := hide (by rw [unhide HE, unhide HD, h1]; simp)
        subst h1
        go_wp2_with fail
        go_ret
        exact ⟨by rw [unhide HF]; rfl, (unhide HB).alloc _⟩
      · have e1 : (t == 0) = false := beq_eq_false_iff_ne.2 h1
        by_cases h2 : t < b
        · have HF : Hid (mayEs lo hi (l.map (·.1)) = false) := hide (by rw [unhide HE, unhide HD, decide_eq_true h2]; simp)
          go_wp2_with fail
          go_ret
          exact ⟨by rw [unhide HF]; rfl, (unhide HB).alloc _⟩
        · by_cases h3 : hi < t
          · have HF : Hid (mayEs lo hi (l.map (·.1)) = false) := hide (by rw [unhide HE, unhide HD, decide_eq_true h3]; simp)
            go_wp2_with fail
            go_ret
            exact ⟨by rw [unhide HF]; rfl, (unhide HB).alloc _⟩
          · cases me with
            | true =>
              have HF : Hid (mayEs lo hi (l.map (·.1)) = mayEs t hi ((l.drop (k + 1)).map (·.1))) := hide (by rw [unhide HE, unhide HD, e1, decide_eq_false h2, decide_eq_false h3]; simp)
              go_wp2_with (first
                | (go_at_call 187; refine ((unhide HC) _ ((unhide HB).alloc _)).mono ?_; rintro e w9 ⟨rfl, hb9⟩; have HB9 := hide hb9; have c0 : w9.cell? ⟨wr.heap.size, 0, none⟩ = some (.int .u64 t) := cell_of (hb9.row (at_new wr _)); clear hb9))
              go_roundw
              case rel => exact ⟨k + 1, t, by omega, by go_num, rfl, ((unhide HB).alloc _).trans (unhide HB9), HF⟩
              case measure => simp [intOf]; omega
            | false =>
              have HF : Hid (mayEs lo hi (l.map (·.1)) = false) := hide (by rw [unhide HE, unhide HD]; simp)
              go_wp2_with (first
                | (go_at_call 187; refine ((unhide HC) _ ((unhide HB).alloc _)).mono ?_; rintro e w9 ⟨rfl, hb9⟩; have HB9 := hide hb9; clear hb9))
              go_ret
              exact ⟨by rw [unhide HF]; rfl, ((unhide HB).alloc _).trans (unhide HB9)⟩
    · obtain rfl : k = n := by omega
      have HF : Hid (mayEs lo hi (l.map (·.1)) = true) := hide (by rw [unhide HE, List.drop_of_length_le (by rw [unhide HN]; omega)]; rfl)
      have HB := hide hb
      clear hb
      go_wp2_with fail
      go_ret
      exact ⟨by rw [unhide HF]; rfl, unhide HB⟩
end Go.Proofs.YthekbhliokcpcaaGreat
