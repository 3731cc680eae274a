/- slices.Delete at a wal's records. -/
import Derived.Test.YtgimciacapfbfaaGreatDoorInv
import Derived.Shelf.RegionOpenPlain
import Derived.Lib.SliceRun
import Derived.Deep.Upon
import Derived.Deep.RegionLaw
namespace Go.Proofs.YtgimciacapfbfaaGreatDoor
open Go.RowKit Go.Maps Go.WideMaps
/-- Cells laid over others. -/
def ovl : Array Value → Nat → List Value → Array Value
  | c, _, [] => c
  | c, o, v :: r => ovl (c.setIfInBounds o v) (o + 1) r
theorem ovl_size : ∀ (vs : List Value) (c : Array Value) (o : Nat), (ovl c o vs).size = c.size
  | [], _, _ => rfl
  | v :: r, c, o => by rw [ovl, ovl_size r]; simp
theorem ovl_list : ∀ (vs : List Value) (c : Array Value) (o : Nat), o + vs.length ≤ c.size → (ovl c o vs).toList = c.toList.take o ++ vs ++ c.toList.drop (o + vs.length)
  | [], c, o, _ => by simp [ovl]
  | v :: r, c, o, h => by
    rw [List.length_cons] at h
    rw [ovl, ovl_list r _ _ (by simp; omega), Array.toList_setIfInBounds]
    have ho : o < c.toList.length := by simp; omega
    rw [show o + 1 + r.length = o + (r.length + 1) by omega, List.length_cons, List.drop_set, if_pos (by omega)]
    congr 1
    rw [List.take_set, take_one c.toList o ho, List.set_append_right _ _ (by simp; omega)]
    have : o - (c.toList.take o).length = 0 := by simp; omega
    rw [this]
    simp
theorem cells_over : ∀ (vs : List Value) (W : World) (g o : Nat) (c : Array Value) (t : TypeId) (fr : Nat × Nat), W.heap[g]? = some (.cells c t fr) → (W.setCells g o vs).heap[g]? = some (.cells (ovl c o vs) t fr)
  | [], _, _, _, _, _, _, h => h
  | v :: r, W, g, o, c, t, fr, h => by
    show ((W.setCell ⟨g, o, none⟩ v).setCells g (o + 1) r).heap[g]? = _
    exact cells_over r _ g (o + 1) _ t fr (row_set h)
theorem Ch.cells {M : Nat → Prop} {a : World} : ∀ (vs : List Value) {b : World} (g o : Nat), Ch M a b → M g → Ch M a (b.setCells g o vs)
  | [], _, _, _, h, _ => h
  | v :: r, _, g, o, h, hm => Ch.cells r g (o + 1) (h.set (ad := ⟨g, o, none⟩) (Or.inl hm) v) hm
theorem run_clear2 (w : World) (b o n c : Nat) (hc : ∀ j, j < n * 2 → (w.cell? ⟨b, o + j, none⟩).isSome = true) (hf : ∀ j, j < n * 2 → w.frozen? ⟨b, o + j, none⟩ = false) : ∃ Z : List Value, Z.length = n * 2 ∧ ∀ ty,
    (Builtin.clear_ #[53] ty #[.slice (some ⟨b, o, none⟩) n c]).run Tryz.prog w = .ok (.tuple #[]) (w.setCells b o Z) := by
  rcases Nat.eq_zero_or_pos n with rfl | hn
  · exact ⟨[], rfl, fun ty => by simp [Builtin.clear_, run_underlying Tryz.underlying53, World.setCells]⟩
  · refine ⟨(Builtin.zeroCells #[.string ⟨#[]⟩, .int .i64 0] n).toList, by simp [Builtin.zeroCells], fun ty => ?_⟩
    have hl : (Builtin.zeroCells #[Value.string ⟨#[]⟩, .int .i64 0] n).toList.length = n * 2 := by simp [Builtin.zeroCells]
    have hst := run_storeCells_cells (P := Tryz.prog) b o (Builtin.zeroCells #[.string ⟨#[]⟩, .int .i64 0] n).toList 0 w (by rw [hl]; simpa using hc) (by rw [hl]; simpa using hf) (by
      intro v hv
      simp [Builtin.zeroCells] at hv
      obtain ⟨i, _, rfl⟩ := hv
      have : i % 2 = 0 ∨ i % 2 = 1 := by omega
      rcases this with h | h <;> simp [h, Value.oneCell'])
    simp only [Nat.add_zero] at hst
    have hv : ∀ w, (zeroValue 67).run Tryz.prog w = .ok (.agg #[.string ⟨#[]⟩, .int .i64 0]) w := fun w => by go_simp
    obtain ⟨m, rfl⟩ : ∃ m, n = m + 1 := ⟨n - 1, by omega⟩
    simp [Builtin.clear_, run_underlying Tryz.underlying53, hv, Value.cells, hst]
theorem rcs_take (l : List (List UInt8 × Nat)) (i : Nat) (h : i ≤ l.length) : (rcs l).take (i * 2) = rcs (l.take i) := by
  have e : rcs l = rcs (l.take i) ++ rcs (l.drop i) := by rw [← rcs_app, List.take_append_drop]
  have hl : (rcs (l.take i)).length = i * 2 := by rw [rcs_len, List.length_take, Nat.min_eq_left h]
  rw [e, List.take_append_of_le_length (by omega), List.take_of_length_le (by omega)]
theorem rcs_drop (l : List (List UInt8 × Nat)) (i : Nat) (h : i ≤ l.length) : (rcs l).drop (i * 2) = rcs (l.drop i) := by
  have e : rcs l = rcs (l.take i) ++ rcs (l.drop i) := by rw [← rcs_app, List.take_append_drop]
  have hl : (rcs (l.take i)).length = i * 2 := by rw [rcs_len, List.length_take, Nat.min_eq_left h]
  rw [e, ← hl, List.drop_left]
set_option maxRecDepth 1000000 in
set_option maxHeartbeats 4000000 in
theorem delete_any (g n cap i j : Nat) (l : List (List UInt8 × Nat)) (w : World) (hown : w.ownsRow 0 67 2 (.slice (some ⟨g, 0, none⟩) n cap) n (rcs l)) (hij : i < j) (hj : j ≤ n) (hln : l.length = n) (hcap : n ≤ cap) (hcm : cap ≤ maxLen) :
    Calls Tryz.prog 38 #[.slice (some ⟨g, 0, none⟩) n cap, .int .i64 i, .int .i64 j] w fun e w' => e = .returned (.slice (some ⟨g, 0, none⟩) (n - (j - i)) cap) ∧ w'.ownsRow 0 67 2 (.slice (some ⟨g, 0, none⟩) (n - (j - i)) cap) (n - (j - i)) (rcs (l.take i ++ l.drop j)) ∧ Ch (fun k => k = g) w w' := by
  unfold maxLen at hcm
  obtain ⟨cur, hblk, hcs, hxs⟩ : ∃ cur, w.heap[g]? = some (.cells cur 67 (0, 0)) ∧ cur.size = cap * 2 ∧ cur.toList.take (n * 2) = rcs l := by
    rcases hown.2 with ⟨h, _⟩ | ⟨g', cap', cur, h, _, h2, _, _, h5, h6⟩
    · cases h
    · cases h; exact ⟨cur, h2, h5, h6⟩
  have hcell : ∀ k, k < n * 2 → w.drew.cell? ⟨g, k, none⟩ = (rcs l)[k]? := fun k hk => hown.cellAt k hk
  have hfrz : ∀ k, w.drew.frozen? ⟨g, k, none⟩ = false := fun k => hown.frozenAt k
  have hrl := rcs_len l
  obtain ⟨news, hnews⟩ : ∃ news, news = (rcs l).drop (j * 2) := ⟨_, rfl⟩
  have hlen : news.length = (n - j) * 2 := by rw [hnews, List.length_drop, hrl, hln]; omega
  have s1 : Hid (news.length = (n - j) * 2) := hlen
  have s2 : Hid (∀ u ∈ news, u.oneCell' = true) := by
    intro u hu
    rw [hnews] at hu
    exact rcs_one l u (List.mem_of_mem_drop hu)
  obtain ⟨A, hA, hsrc⟩ : ∃ A : Addr, (if cap = j then some (⟨g, 0, none⟩ : Addr) else some ⟨g, j * 2, none⟩) = some A ∧ Hid (∀ t u, news[t]? = some u → w.drew.cell? (A.add t) = some u) := by
    by_cases h : cap = j
    · refine ⟨⟨g, 0, none⟩, by simp [h], fun t u hu => ?_⟩
      have h0 : news.length = 0 := by rw [hlen]; omega
      rw [List.length_eq_zero_iff.1 h0] at hu
      simp at hu
    · refine ⟨⟨g, j * 2, none⟩, by simp [h], fun t u hu => ?_⟩
      have ht : t < (n - j) * 2 := by
        have := (List.getElem?_eq_some_iff.1 hu).1
        rwa [hlen] at this
      rw [Addr.add_lit, hcell (j * 2 + t) (by omega)]
      rw [hnews, List.getElem?_drop] at hu
      exact hu
  have s3 : Hid (∀ t, t < news.length → (w.drew.cell? ⟨g, 0 + i * 2 + t, none⟩).isSome = true ∧ w.drew.frozen? ⟨g, 0 + i * 2 + t, none⟩ = false) := by
    intro t ht
    rw [hlen] at ht
    refine ⟨?_, hfrz _⟩
    rw [hcell _ (by omega)]
    simp
    omega
  obtain ⟨W1, hW1⟩ : ∃ W1, W1 = w.drew.setCells g (0 + i * 2) news := ⟨_, rfl⟩
  have hb1 : W1.heap[g]? = some (.cells (ovl cur (i * 2) news) 67 (0, 0)) := by
    rw [hW1, Nat.zero_add]
    exact cells_over news w.drew g (i * 2) cur 67 (0, 0) hblk
  have hch1 : Ch (fun k => k = g) w W1 := by rw [hW1]; exact Ch.cells news g _ ((Ch.refl _ w).drew) rfl
  obtain ⟨Z, hZ, hcl⟩ : ∃ Z : List Value, Z.length = (j - i) * 2 ∧ ∀ ty, (Builtin.clear_ #[53] ty #[.slice (some ⟨g, (i + (n - j)) * 2, none⟩) (n - (i + (n - j))) (cap - (i + (n - j)))]).run Tryz.prog W1 = .ok (.tuple #[]) (W1.setCells g ((i + (n - j)) * 2) Z) := by
    obtain ⟨Z, h1, h2⟩ := run_clear2 W1 g ((i + (n - j)) * 2) (n - (i + (n - j))) (cap - (i + (n - j))) (fun t ht => by
      rw [show W1.cell? ⟨g, (i + (n - j)) * 2 + t, none⟩ = (ovl cur (i * 2) news)[(i + (n - j)) * 2 + t]? from cell_of hb1]
      have : (i + (n - j)) * 2 + t < (ovl cur (i * 2) news).size := by rw [ovl_size]; omega
      simp [this]) (fun t _ => free_row hb1)
    exact ⟨Z, by rw [h1]; omega, h2⟩
  have hfin : Hid ((W1.setCells g ((i + (n - j)) * 2) Z).ownsRow 0 67 2 (.slice (some ⟨g, 0, none⟩) (n - (j - i)) cap) (n - (j - i)) (rcs (l.take i ++ l.drop j))) := by
    have ho : (i + (n - j)) * 2 = (n - (j - i)) * 2 := by omega
    have hl1 : (ovl cur (i * 2) news).toList = cur.toList.take (i * 2) ++ news ++ cur.toList.drop (i * 2 + news.length) := ovl_list news cur (i * 2) (by omega)
    have hl2 := ovl_list Z (ovl cur (i * 2) news) ((i + (n - j)) * 2) (by rw [ovl_size]; omega)
    have ht1 : cur.toList.take (i * 2) = rcs (l.take i) := by rw [← rcs_take l i (by omega), ← hxs, List.take_take, Nat.min_eq_left (by omega)]
    have hn1 : news = rcs (l.drop j) := by rw [hnews, rcs_drop l j (by omega)]
    have ht2 : (ovl cur (i * 2) news).toList.take ((i + (n - j)) * 2) = rcs (l.take i ++ l.drop j) := by
      rw [hl1, ht1, rcs_app, ← hn1]
      have hq : (rcs (l.take i) ++ news).length = (i + (n - j)) * 2 := by rw [List.length_append, rcs_len, List.length_take, hlen, Nat.min_eq_left (by omega)]; omega
      rw [← hq, List.take_left]
    refine ⟨?_, Or.inr ⟨g, cap, _, rfl, Nat.zero_le _, cells_over Z W1 g _ _ 67 (0, 0) hb1, by omega, by unfold maxLen; omega, by rw [ovl_size, ovl_size, hcs], ?_⟩⟩
    · rw [rcs_len, List.length_append, List.length_take, List.length_drop, Nat.min_eq_left (by omega)]; omega
    · rw [hl2, ← ho, ← ht2]
      have hq : ((ovl cur (i * 2) news).toList.take ((i + (n - j)) * 2)).length = (i + (n - j)) * 2 := by
        rw [List.length_take, Nat.min_eq_left]
        rw [Array.length_toList, ovl_size]; omega
      rw [List.append_assoc, List.take_append_of_le_length (by omega), List.take_of_length_le (by omega)]
  have hch2 : Hid (Ch (fun k => k = g) w (W1.setCells g ((i + (n - j)) * 2) Z)) := Ch.cells Z g _ hch1 rfl
  have hW : Hid (W1 = w.drew.setCells g (0 + i * 2) news) := hW1
  have hic : i ≤ cap := by omega
  have hjc : j ≤ cap := by omega
  have hne : ((i : Int) == (j : Int)) = false := by rw [beq_eq_false_iff_ne]; omega
  obtain ⟨i0, hi0, hz0, hz1, hz2⟩ := Tryz.i67
  clear hW1 hb1 hch1 hblk hcs hxs hcell hfrz hrl hnews hlen hown hZ
  go_enter Tryz.func38, Tryz.ntmps38
  go_wp2_with fail
  have hx1 : i + (n - j) < cap := by omega
  have hx2 : ¬ cap = i + (n - j) := by omega
  have hx3 : i + (n - j) ≤ n := by omega
  go_region_law (refine step_append_room rfl (.tmp 22) (.tmp 25) 53 rfl 67 i0 2 Tryz.underlying53 hi0 hz1 g 0 i cap (by simp [Act.eval, Act.put]) A (n - j) (cap - j) news (by simp [Act.eval, Act.put]) s1.out hsrc.out s2.out (by omega) s3.out ?_; rw [← hW.out])
  all_goals
    go_wp2_with fail
    go_ret
    exact ⟨by rw [show n - (j - i) = i + (n - j) by omega]; rfl, unhide hfin, unhide hch2⟩
end Go.Proofs.YtgimciacapfbfaaGreatDoor
