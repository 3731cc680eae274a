/- What the program's maps of registers return: nought, of, squared and behind; for every register and every number of bytes. -/
import Derived.Test.YtncgfcmjeojocaaWalksB
import Derived.Deep.RegionHeld
namespace Go.Proofs.Ytncgfcmjeojocaa
open Go.RowKit
def mv (m : List (BitVec 32)) : Array Value := (m.map fun y => Value.int .u32 (U y)).toArray
theorem mv_size (m : List (BitVec 32)) (h : m.length = 32) : (mv m).size = 32 := by simp [mv, h]
theorem mv_get (m : List (BitVec 32)) (k : Nat) (h : k < m.length) : (mv m)[k]? = some (.int .u32 (U (m.getD k 0#32))) := by
  simp [mv, h]
def timesTo (m : List (BitVec 32)) (x : BitVec 32) : Nat → BitVec 32
  | 0 => 0#32
  | k + 1 => if x.getLsbD k then timesTo m x k ^^^ m.getD k 0#32 else timesTo m x k
def fillTo (f : Nat → BitVec 32) (k : Nat) : List (BitVec 32) := (List.range 32).map fun i => if i < k then f i else 0#32
def tab (f : Nat → BitVec 32) : List (BitVec 32) := (List.range 32).map f
theorem fillTo_len (f : Nat → BitVec 32) (k : Nat) : (fillTo f k).length = 32 := by simp [fillTo]
theorem tab_len (f : Nat → BitVec 32) : (tab f).length = 32 := by simp [tab]
theorem fillTo_all (f : Nat → BitVec 32) : fillTo f 32 = tab f := by
  unfold fillTo tab
  apply List.map_congr_left
  intro i hi
  rw [if_pos (List.mem_range.1 hi)]
theorem fillTo_0 (f : Nat → BitVec 32) : mv (fillTo f 0) = Array.replicate 32 (.int .u32 0) := by rfl
theorem fillTo_set (f : Nat → BitVec 32) (k : Nat) : (mv (fillTo f k)).setIfInBounds k (.int .u32 (U (f k))) = mv (fillTo f (k + 1)) := by
  apply Array.ext_getElem?
  intro i
  rw [Array.getElem?_setIfInBounds]
  by_cases hi : i < 32
  · by_cases hk : k = i
    · subst hk
      simp [mv, fillTo, hi]
    · have e : (i < k + 1) = (i < k) := by apply propext; omega
      simp [mv, fillTo, hi, hk, e]
  · by_cases hk : k = i
    · subst hk; simp [mv, fillTo, hi]
    · simp [mv, fillTo, hi, hk]
theorem bit_iff (x : BitVec 32) (k : Nat) : (bits .and .u32 (U x / (2 : Int) ^ k) 1 == 1) = x.getLsbD k := by
  rw [U_shr, odd_iff, BitVec.getLsbD_ushiftRight]; simp
theorem timesTo_f {m : List (BitVec 32)} {x : BitVec 32} {k : Nat} (h : x.getLsbD k = false) : timesTo m x (k + 1) = timesTo m x k := by
  show (if x.getLsbD k then _ else _) = _
  rw [h]; rfl
theorem timesTo_t {m : List (BitVec 32)} {x : BitVec 32} {k : Nat} (h : x.getLsbD k = true) : timesTo m x (k + 1) = timesTo m x k ^^^ m.getD k 0#32 := by
  show (if x.getLsbD k then _ else _) = _
  rw [h]; rfl
theorem lof_any (m : List (BitVec 32)) (hm : m.length = 32) (x : BitVec 32) (w : World) :
    Calls Try.prog 29 #[.agg (mv m), .int .u32 (U x)] w fun e w' => e = .returned (.int .u32 (U (timesTo m x 32))) ∧ w' = w.alloc (.cells (mv m) 49) := by
  have Hm : Hid (m.length = 32) := hm
  clear hm
  go_enter Try.func29, Try.ntmps29
  go_wp2_with fail
  go_loop [5, 6, 7] (fun r _ i => ∃ k : Nat, k ≤ 32 ∧ i = .int .i64 k ∧ r = .int .u32 (U (timesTo m x k))) (fun _ _ i => 32 - (intOf i).toNat)
  case atStart => exact ⟨0, Nat.zero_le _, rfl, rfl⟩
  case round =>
    obtain ⟨k, hk, rfl, rfl⟩ := hrel
    by_cases hlt : k < 32
    · have hget := mv_get m k (by rw [Hm.out]; exact hlt)
      have hbit := bit_iff x k
      cases hx : x.getLsbD k
      · rw [hx] at hbit
        have Hx : Hid (x.getLsbD k = false) := hx
        clear hx
        go_wp2
        go_round
        case rel => exact ⟨k + 1, by omega, by go_num, by rw [timesTo_f Hx.out]⟩
        case measure => simp [intOf]; omega
      · rw [hx] at hbit
        have Hx : Hid (x.getLsbD k = true) := hx
        clear hx
        go_wp2
        go_round
        case rel => exact ⟨k + 1, by omega, by go_num, by rw [timesTo_t Hx.out, ← U_xor, List.getD_eq_getElem?_getD]⟩
        case measure => simp [intOf]; omega
    · go_wp2
      go_ret
      obtain rfl : k = 32 := by omega
      exact ⟨rfl, rfl⟩

theorem pow_shl (k : Nat) (h : k < 32) : ((2 : Int) ^ k) = U (1#32 <<< k) := by
  unfold U
  rw [BitVec.toNat_shiftLeft, Nat.shiftLeft_eq, Nat.mod_eq_of_lt]
  · simp
  · simp; exact Nat.pow_lt_pow_right (by omega) h
def nof (i : Nat) : BitVec 32 := turn (1#32 <<< i)
def z32 : Array Value := mv (fillTo nof 0)
theorem z32_eq : z32 = #[.int .u32 0, .int .u32 0, .int .u32 0, .int .u32 0, .int .u32 0, .int .u32 0, .int .u32 0, .int .u32 0, .int .u32 0, .int .u32 0, .int .u32 0, .int .u32 0, .int .u32 0, .int .u32 0, .int .u32 0, .int .u32 0, .int .u32 0, .int .u32 0, .int .u32 0, .int .u32 0, .int .u32 0, .int .u32 0, .int .u32 0, .int .u32 0, .int .u32 0, .int .u32 0, .int .u32 0, .int .u32 0, .int .u32 0, .int .u32 0, .int .u32 0, .int .u32 0] := rfl
theorem z32_fill (f : Nat → BitVec 32) : z32 = mv (fillTo f 0) := rfl
theorem frozen_setRow (w : World) (g : Nat) (cs : Array Value) (a : Addr) : (w.setRow g cs).frozen? a = w.frozen? a := by
  unfold World.frozen? World.setRow
  simp only [Array.getElem?_modify]
  by_cases h : g = a.block
  · rw [if_pos h]
    cases hq : w.heap[a.block]? with
    | none => rfl
    | some o => cases o <;> rfl
  · rw [if_neg h]
def GB (w w' : World) : Prop := Grown w w' ∧ Below w.heap.size w w'
theorem GB.refl (w : World) : GB w w := ⟨Grown.refl _, Below.refl _ _⟩
theorem grown_trans' {a b c : World} (h : Grown a b) (k : Grown b c) : Grown a c :=
  ⟨World.keptBut_trans h.1 k.1, fun p => (k.2.1 p).trans (h.2.1 p), Nat.le_trans h.2.2 k.2.2⟩
theorem GB.trans {a b c : World} (h : GB a b) (k : GB b c) : GB a c :=
  ⟨grown_trans' h.1 k.1, h.2.trans (k.2.mono h.2.size)⟩
theorem GB.size {a b : World} (h : GB a b) : a.heap.size ≤ b.heap.size := h.2.size
theorem GB.alloc {a b : World} (h : GB a b) (c : Array Value) (t : TypeId) : GB a (b.alloc (.cells c t)) :=
  ⟨h.1.alloc c t, h.2.alloc h.2.size _⟩
theorem GB.setCell {a b : World} (h : GB a b) {p : Addr} (hp : a.heap.size ≤ p.block) (v : Value) : GB a (b.setCell p v) :=
  ⟨h.1.setCell hp v, h.2.setCell hp v⟩
theorem GB.drew {a b : World} (h : GB a b) : GB a b.drew := ⟨h.1.drew, h.2.drew⟩
theorem GB.setRow {a b : World} (h : GB a b) {g : Nat} (hp : a.heap.size ≤ g) (cs : Array Value) : GB a (b.setRow g cs) := by
  obtain ⟨⟨⟨h1, h2, h3⟩, hf, hs⟩, hb⟩ := h
  have e : ∀ i, i < a.heap.size → (b.setRow g cs).heap[i]? = b.heap[i]? := fun i hi => by
    simp only [World.setRow, Array.getElem?_modify]
    rw [if_neg (by omega)]
  refine ⟨⟨⟨h1, h2, fun i hi => ?_⟩, fun x => (frozen_setRow _ _ _ _).trans (hf x), by simpa using hs⟩, ⟨hb.os, hb.tape, hb.output, by simpa using hb.size, fun k hk => (e k hk).trans (hb.block k hk)⟩⟩
  rw [e i hi]
  exact h3 i hi
theorem GB.row {a b : World} (h : GB a b) {i : Nat} (hi : i < a.heap.size) : b.heap[i]? = a.heap[i]? := h.2.block i hi
theorem row_lt {w : World} {g : Nat} {o : Obj} (h : w.heap[g]? = some o) : g < w.heap.size := (Array.getElem?_eq_some_iff.1 h).1
theorem info49 (m : List (BitVec 32)) (h : m.length = 32) : (Try.prog.info? 49).map (·.size) = some (mv m).size := by
  rw [mv_size m h]; kernel_rfl
theorem mv_one (m : List (BitVec 32)) : (mv m).all (·.oneCell') = true := by
  simp [mv, Value.oneCell']
theorem nought_any (w : World) :
    Calls Try.prog 28 #[] w fun e w' => e = .returned (.agg (mv (tab nof))) ∧ GB w w' := by
  go_enter Try.func28, Try.ntmps28
  go_wp2_with fail
  go_loopw [2, 3] (fun _ i W => ∃ k : Nat, k ≤ 32 ∧ i = .int .i64 k ∧ W = (w.alloc (.cells z32 49)).alloc (.cells (mv (fillTo nof k)) 49)) (fun _ i _ => 32 - (intOf i).toNat)
  case atStart => exact ⟨0, Nat.zero_le _, rfl, by rw [← z32_fill, z32_eq]⟩
  case round =>
    obtain ⟨k, hk, rfl, rfl⟩ := hrel
    by_cases hlt : k < 32
    · have hget := mv_get (fillTo nof k) k (by rw [fillTo_len]; exact hlt)
      have Hset := hide (fillTo_set nof k)
      go_wp2_with fail
      refine (turn_any _ (1#32 <<< k) (by rw [← pow_shl k hlt]; have h1 : (2 : Int) ^ k < 2 ^ 32 := Int.pow_lt_pow_of_lt (by omega) hlt; have h2 : (0 : Int) ≤ 2 ^ k := Int.le_of_lt (Int.pow_pos (by omega)); exact Int.emod_eq_of_lt h2 h1) _).mono ?_
      rintro e w1 ⟨rfl, rfl⟩
      go_wp2_with fail
      go_roundw
      case rel => exact ⟨k + 1, by omega, by go_num, by rw [← unhide Hset]; rfl⟩
      case measure => simp [intOf]; omega
    · obtain rfl : k = 32 := by omega
      rw [fillTo_all]
      have h1 := heap_alloc2_new w (.cells z32 49) (.cells (mv (tab nof)) 49)
      have h0 := heap_alloc2_old w (.cells z32 49) (.cells (mv (tab nof)) 49)
      have hi := info49 (tab nof) (tab_len _)
      have hone := mv_one (tab nof)
      have hz : z32.size = (mv (tab nof)).size := rfl
      go_wp2_with (first | (refine wpList_load_row rfl 49 _ rfl (w.heap.size + 1) rfl 49 (mv (tab nof)) (0, 0) _ h1 Try.underlying49 rfl hi ?_) | (refine wpList_store_row rfl 49 _ _ rfl w.heap.size (mv (tab nof)) rfl rfl 49 z32 h0 hi hz hone ?_))
      exact bodyPost_ret (v := .agg (mv (tab nof))) (results_cell_row (p := 0) (ty := 49) rfl _ _ w.heap.size 49 _ (0, 0) _ rfl (setRow_heap _ _ _ _ _ _ h0) Try.underlying49 rfl hi) rfl ⟨rfl, (((GB.refl w).alloc _ _).alloc _ _).setRow (Nat.le_refl _) _⟩
def sqof (m : List (BitVec 32)) (i : Nat) : BitVec 32 := timesTo m (m.getD i 0#32) 32
theorem heap_alloc3_new (w : World) (A B C : Obj) : (((w.alloc A).alloc B).alloc C).heap[w.heap.size + 2]? = some C := by
  have h := heap_alloc2_new (w.alloc A) B C
  have e : (w.alloc A).heap.size = w.heap.size + 1 := by
    show (w.heap.push A).size = _
    simp
  rwa [e] at h
theorem held_of_row {m : List (BitVec 32)} (hm : m.length = 32) {b k : Nat} (hk : k < 32) {W : World} (h : W.heap[b]? = some (.cells (mv m) 49)) :
    W.rangeAt b 0 (mv m).toList ∧ W.cell? ⟨b, k, none⟩ = some (.int .u32 (U (m.getD k 0#32))) := by
  refine ⟨fun j v hv => ?_, ?_⟩
  · rw [cell_of_row _ _ _ _ _ _ h]; simpa using hv
  · rw [cell_of_row _ _ _ _ _ _ h]; exact mv_get m k (by rw [hm]; exact hk)
theorem row_store {W : World} {p : Addr} {v : Value} {b : Nat} {o o' : Obj} (h : W.heap[b]? = some o) (hp : b ≠ p.block) : ((W.setCell p v).alloc o').drew.heap[b]? = some o := by
  rw [heap_drew, Below.heap_alloc _ _ _ (by rw [show (W.setCell p v).heap.size = W.heap.size by simp [World.setCell]]; exact row_lt h), heap_setCell_other _ _ _ _ hp]; exact h
theorem row_stored {W : World} {b k : Nat} {v : Value} {c : Array Value} {t : TypeId} {o' : Obj} (h : W.heap[b]? = some (.cells c t)) : ((W.setCell ⟨b, k, none⟩ v).alloc o').drew.heap[b]? = some (.cells (c.setIfInBounds k v) t) := by
  rw [heap_drew, Below.heap_alloc _ _ _ (by rw [show (W.setCell ⟨b, k, none⟩ v).heap.size = W.heap.size by simp [World.setCell]]; exact row_lt h)]
  exact heap_setCell_same _ _ _ _ _ _ h
theorem squared_any (m : List (BitVec 32)) (hm : m.length = 32) (w : World) :
    Calls Try.prog 30 #[.agg (mv m)] w fun e w' => e = .returned (.agg (mv (tab (sqof m)))) ∧ GB w w' := by
  have Hm : Hid (m.length = 32) := hm
  clear hm
  go_enter Try.func30, Try.ntmps30
  go_wp2_with fail
  go_loopw [4, 5] (fun _ i W => ∃ k : Nat, k ≤ 32 ∧ i = .int .i64 k ∧ GB w W ∧ W.heap[w.heap.size]? = some (.cells (mv m) 49) ∧ W.heap[w.heap.size + 1]? = some (.cells z32 49) ∧ W.heap[w.heap.size + 2]? = some (.cells (mv (fillTo (sqof m) k)) 49)) (fun _ i _ => 32 - (intOf i).toNat)
  case atStart =>
    refine ⟨0, Nat.zero_le _, rfl, (((GB.refl w).alloc _ _).alloc _ _).alloc _ _, ?_, ?_, ?_⟩
    · rw [Below.heap_alloc _ _ _ (by simp; omega), heap_alloc2_old]
    · rw [Below.heap_alloc _ _ _ (by simp), heap_alloc2_new, z32_eq]
    · rw [← z32_fill, z32_eq]; exact heap_alloc3_new w _ _ _
  case round =>
    obtain ⟨k, hk, rfl, hg, h0, h1, h2⟩ := hrel
    have hs2 := row_lt h2
    by_cases hlt : k < 32
    · have hu := Try.underlying49
      have hi' : (Try.prog.info? 49).map (·.size) = some (mv m).toList.length := by rw [Array.length_toList]; exact info49 m Hm.out
      have hl' : (mv m).toList.length = 32 := by rw [Array.length_toList]; exact mv_size m Hm.out
      have h1' : ∀ v ∈ (mv m).toList, v.oneCell' = true := by intro v hv; simp [mv] at hv; obtain ⟨a, _, rfl⟩ := hv; rfl
      have s0 := hide (held_of_row (b := w.heap.size) (W := wr.drew) (k := k) Hm.out hlt h0)
      have s1 := hide (held_of_row (b := w.heap.size) (W := (wr.alloc (.cells (mv m) 49)).drew) (k := k) Hm.out hlt (by rw [heap_drew, Below.heap_alloc _ _ _ (by omega)]; exact h0))
      have s2 := hide (fun v => held_of_row (b := w.heap.size) (W := ((wr.setCell ⟨w.heap.size + 1 + 1, k, none⟩ v).alloc (.cells (mv m) 49)).drew) (k := k) Hm.out hlt (row_store h0 (by simp; omega)))
      have hc2 : wr.cell? ⟨w.heap.size + 1 + 1, k, none⟩ = some (.int .u32 (U ((fillTo (sqof m) k).getD k 0#32))) := by
        rw [cell_of_row _ _ _ _ _ _ h2]; exact mv_get _ k (by rw [fillTo_len]; exact hlt)
      have hf2 : wr.frozen? ⟨w.heap.size + 1 + 1, k, none⟩ = false := frozen_of_row _ _ _ _ _ h2
      have G0 := hide h0
      have G1 := hide h1
      have G2 := hide h2
      clear h0 h1 h2
      go_wp2_with fail
      go_region_held (fun W' => W'.rangeAt w.heap.size 0 (mv m).toList ∧ W'.cell? ⟨w.heap.size, k, none⟩ = some (.int .u32 (U (m.getD k 0#32)))) (first | exact s0.out | exact s1.out | exact s2.out _) (first | (go_at_call 29; refine (lof_any m Hm.out _ _).mono ?_; rintro e w' ⟨rfl, rfl⟩))
      go_wp2
      go_roundw
      case rel =>
        refine ⟨k + 1, by omega, by go_num, ?_, ?_, ?_, ?_⟩
        · exact ((hg.setCell (by simp; omega) _).alloc _ _).drew
        · exact row_store G0.out (by simp; omega)
        · exact row_store G1.out (by simp)
        · rw [← fillTo_set, sqof, List.getD_eq_getElem?_getD]
          exact row_stored G2.out
      case measure => simp [intOf]; omega
    · obtain rfl : k = 32 := by omega
      rw [fillTo_all] at h2
      have hi := info49 (tab (sqof m)) (tab_len _)
      have hone := mv_one (tab (sqof m))
      have hz : z32.size = (mv (tab (sqof m))).size := by rw [mv_size _ (tab_len _)]; rfl
      have G1 := hide h1
      have G2 := hide h2
      have Hi := hide hi
      have Ho := hide hone
      have Hz := hide hz
      clear h0 h1 h2 hi hone hz
      go_wp2_with (first | (refine wpList_load_row rfl 49 _ rfl (w.heap.size + 1 + 1) rfl 49 (mv (tab (sqof m))) (0, 0) _ G2.out Try.underlying49 rfl Hi.out ?_) | (refine wpList_store_row rfl 49 _ _ rfl (w.heap.size + 1) (mv (tab (sqof m))) rfl rfl 49 z32 G1.out Hi.out Hz.out Ho.out ?_))
      exact bodyPost_ret (v := .agg (mv (tab (sqof m)))) (results_cell_row (p := 2) (ty := 49) rfl _ _ (w.heap.size + 1) 49 _ (0, 0) _ rfl (setRow_heap _ _ _ _ _ _ G1.out) Try.underlying49 rfl Hi.out) rfl ⟨rfl, hg.setRow (by omega) _⟩

def behF : Nat → List (BitVec 32) → BitVec 32 → Nat → BitVec 32
  | 0, _, r, _ => r
  | f + 1, M, r, n => if n = 0 then r else behF f (tab (sqof M)) (if n % 2 = 1 then timesTo M r 32 else r) (n / 2)
def beh (x : BitVec 32) (n : Nat) : BitVec 32 := behF 64 (tab nof) x n
theorem behF_zero (f : Nat) (M : List (BitVec 32)) (r : BitVec 32) : behF f M r 0 = r := by cases f <;> rfl
theorem behF_odd (f : Nat) (M : List (BitVec 32)) (r : BitVec 32) (n : Nat) (h : n % 2 = 1) : behF (f + 1) M r n = behF f (tab (sqof M)) (timesTo M r 32) (n / 2) := by
  rw [behF, if_neg (by omega), if_pos h]
theorem behF_even (f : Nat) (M : List (BitVec 32)) (r : BitVec 32) (n : Nat) (h0 : n ≠ 0) (h : n % 2 = 0) : behF (f + 1) M r n = behF f (tab (sqof M)) r (n / 2) := by
  rw [behF, if_neg h0, if_neg (by omega)]
theorem wrap_i64_small (n : Int) (h0 : 0 ≤ n) (h1 : n < 9223372036854775808) : IntKind.i64.wrap n = n := by
  simp [IntKind.wrap, IntKind.bits, IntKind.signed]
  split <;> omega
theorem i64_and (x m : Nat) (hx : x < 9223372036854775808) (hm : m < 9223372036854775808) : bits .and .i64 (x : Int) (m : Int) = ((x &&& m : Nat) : Int) := by
  show IntKind.i64.wrap ((BitVec.ofInt 64 (x : Int) &&& BitVec.ofInt 64 (m : Int)).toNat : Int) = _
  rw [BitVec.toNat_and, ofInt_u64 x (by omega), ofInt_u64 m (by omega)]
  have := Nat.and_le_left (n := x) (m := m)
  exact wrap_i64_small _ (by omega) (by omega)
theorem i64_and1 (z : Int) (h0 : 0 ≤ z) (h1 : z ≤ 9223372036854775807) : bits .and .i64 z 1 = z % 2 := by
  obtain ⟨n, rfl⟩ := Int.eq_ofNat_of_zero_le h0
  rw [show (1 : Int) = ((1 : Nat) : Int) from rfl, i64_and n 1 (by omega) (by omega), nat_mask1]; omega
theorem new_z (W : World) : (W.alloc (.cells #[.int .u32 0, .int .u32 0, .int .u32 0, .int .u32 0, .int .u32 0, .int .u32 0, .int .u32 0, .int .u32 0, .int .u32 0, .int .u32 0, .int .u32 0, .int .u32 0, .int .u32 0, .int .u32 0, .int .u32 0, .int .u32 0, .int .u32 0, .int .u32 0, .int .u32 0, .int .u32 0, .int .u32 0, .int .u32 0, .int .u32 0, .int .u32 0, .int .u32 0, .int .u32 0, .int .u32 0, .int .u32 0, .int .u32 0, .int .u32 0, .int .u32 0, .int .u32 0] 49)).heap[W.heap.size]? = some (.cells z32 49) := heap_alloc_last W _
theorem new_zr (W : World) (b : Nat) (c : Array Value) : ((W.setRow b c).alloc (.cells #[.int .u32 0, .int .u32 0, .int .u32 0, .int .u32 0, .int .u32 0, .int .u32 0, .int .u32 0, .int .u32 0, .int .u32 0, .int .u32 0, .int .u32 0, .int .u32 0, .int .u32 0, .int .u32 0, .int .u32 0, .int .u32 0, .int .u32 0, .int .u32 0, .int .u32 0, .int .u32 0, .int .u32 0, .int .u32 0, .int .u32 0, .int .u32 0, .int .u32 0, .int .u32 0, .int .u32 0, .int .u32 0, .int .u32 0, .int .u32 0, .int .u32 0, .int .u32 0] 49)).heap[W.heap.size]? = some (.cells z32 49) := by
  have h := new_z (W.setRow b c)
  rwa [size_setRow] at h
theorem z32_size (M : List (BitVec 32)) (h : M.length = 32) : z32.size = (mv M).size := by rw [mv_size M h]; rfl
theorem behind_any (v : Int) (x : BitVec 32) (hv : v = U x) (n : Int) (h0 : -9223372036854775808 ≤ n) (h1 : n ≤ 9223372036854775807) (w : World) :
    Calls Try.prog 23 #[.int .u32 v, .int .i64 n] w fun e w' => e = .returned (.int .u32 (U (beh x n.toNat))) ∧ GB w w' := by
  subst hv
  go_enter Try.func23, Try.ntmps23
  go_wp2_with fail
  refine (nought_any _).mono ?_
  rintro e w1 ⟨rfl, hg⟩
  go_wp2_with (refine wpList_store_row rfl 49 _ _ rfl w1.heap.size (mv (tab nof)) rfl rfl 49 z32 (new_z w1) (info49 _ (tab_len _)) (z32_size _ (tab_len _)) (mv_one _) ?_)
  go_frame
  go_loopw [0, 1, 5] (fun rr zz pp W => ∃ (f : Nat) (M : List (BitVec 32)) (r : BitVec 32) (z : Int) (b : Nat), behF f M r z.toNat = beh x n.toNat ∧ z.toNat < 2 ^ f ∧ M.length = 32 ∧ rr = .int .u32 (U r) ∧ zz = .int .i64 z ∧ pp = .pointer (some ⟨b, 0, none⟩) ∧ z ≤ 9223372036854775807 ∧ w.heap.size ≤ b ∧ W.heap[b]? = some (.cells (mv M) 49) ∧ GB w W) (fun _ zz _ _ => (intOf zz).toNat)
  case atStart =>
    refine ⟨64, tab nof, x, n, w1.heap.size, rfl, by omega, tab_len _, rfl, rfl, rfl, h1, hg.size, ?_, ?_⟩
    · exact setRow_heap _ _ _ _ _ _ (new_z w1)
    · exact (hg.alloc _ _).setRow hg.size _
  case round =>
    obtain ⟨f, M, r, z, b, hbe, hzf, hM, rfl, rfl, rfl, hz1, hwb, hrow, hgr⟩ := hrel
    have Hbe := hide hbe
    have HM := hide hM
    have B0 := hide hrow
    have Hzf := hide hzf
    clear hbe hM hrow hzf
    by_cases hz0 : 0 < z
    · have ha := i64_and1 z (by omega) hz1
      by_cases hodd : z % 2 = 1
      · have ht : (z % 2 == 1) = true := by rw [hodd]; rfl
        have Hodd := hide hodd
        clear hodd
        go_wp2_with (refine wpList_load_row rfl 49 _ rfl b rfl 49 (mv M) (0, 0) _ B0.out Try.underlying49 rfl (info49 _ HM.out) ?_)
        refine (lof_any M HM.out r _).mono ?_
        rintro e w2 ⟨rfl, rfl⟩
        have Bs : Hid ((wr.alloc (.cells (mv M) 49)).heap[b]? = some (.cells (mv M) 49)) := hide ((Below.heap_alloc _ _ _ (row_lt B0.out)).trans B0.out)
        have hgs : GB w (wr.alloc (.cells (mv M) 49)) := hgr.alloc _ _
        clear B0
        go_wp2_with (refine wpList_load_row rfl 49 _ rfl b rfl 49 (mv M) (0, 0) _ Bs.out Try.underlying49 rfl (info49 _ HM.out) ?_)
        refine (squared_any M HM.out _).mono ?_
        rintro e w3 ⟨rfl, hg3⟩
        have hbl := row_lt Bs.out
        have B2 : Hid (w3.heap[b]? = some (.cells (mv M) 49)) := hide ((hg3.row hbl).trans Bs.out)
        have B3 := hide (setRow_heap w3 b (mv M) (mv (tab (sqof M))) 49 (0, 0) B2.out)
        have hsz : (mv M).size = (mv (tab (sqof M))).size := by rw [mv_size M HM.out, mv_size _ (tab_len _)]
        have Hsz := hide hsz
        have hg4 : GB w (w3.setRow b (mv (tab (sqof M)))) := (hgs.trans hg3).setRow hwb _
        clear hsz hbl hg3 hgs
        go_wp2_with (first | (refine wpList_store_row rfl 49 _ _ rfl b (mv (tab (sqof M))) rfl rfl 49 (mv M) B2.out (info49 _ (tab_len _)) Hsz.out (mv_one _) ?_) | (refine wpList_load_row rfl 49 _ rfl b rfl 49 (mv (tab (sqof M))) (0, 0) _ B3.out Try.underlying49 rfl (info49 _ (tab_len _)) ?_) | (refine wpList_store_row rfl 49 _ _ rfl w3.heap.size (mv (tab (sqof M))) rfl rfl 49 z32 (new_zr w3 b _) (info49 _ (tab_len _)) (z32_size _ (tab_len _)) (mv_one _) ?_))
        go_roundw
        case rel =>
          obtain ⟨f', rfl⟩ : ∃ f', f = f' + 1 := by
            cases f with
            | zero => have := Hzf.out; simp at this; omega
            | succ f' => exact ⟨f', rfl⟩
          have hp := Hzf.out
          rw [Nat.pow_succ] at hp
          refine ⟨f', tab (sqof M), timesTo M r 32, z / 2, w3.heap.size, ?_, by omega, tab_len _, rfl, rfl, rfl, by omega, by have := hg4.size; simpa using this, setRow_heap _ _ _ _ _ _ (new_zr w3 b _), (hg4.alloc _ _).setRow (by have := hg4.size; simpa using this) _⟩
          rw [← Hbe.out, behF_odd _ _ _ _ (by have := Hodd.out; omega), show (z / 2).toNat = z.toNat / 2 by omega]
        case measure => simp [intOf]; omega
      · have ht : (z % 2 == 1) = false := by rw [beq_eq_false_iff_ne]; exact hodd
        have Hodd := hide hodd
        clear hodd
        have Bs : Hid (wr.heap[b]? = some (.cells (mv M) 49)) := hide (B0.out)
        have hgs : GB w wr := hgr
        clear B0
        go_wp2_with (refine wpList_load_row rfl 49 _ rfl b rfl 49 (mv M) (0, 0) _ Bs.out Try.underlying49 rfl (info49 _ HM.out) ?_)
        refine (squared_any M HM.out _).mono ?_
        rintro e w3 ⟨rfl, hg3⟩
        have hbl := row_lt Bs.out
        have B2 : Hid (w3.heap[b]? = some (.cells (mv M) 49)) := hide ((hg3.row hbl).trans Bs.out)
        have B3 := hide (setRow_heap w3 b (mv M) (mv (tab (sqof M))) 49 (0, 0) B2.out)
        have hsz : (mv M).size = (mv (tab (sqof M))).size := by rw [mv_size M HM.out, mv_size _ (tab_len _)]
        have Hsz := hide hsz
        have hg4 : GB w (w3.setRow b (mv (tab (sqof M)))) := (hgs.trans hg3).setRow hwb _
        clear hsz hbl hg3 hgs
        go_wp2_with (first | (refine wpList_store_row rfl 49 _ _ rfl b (mv (tab (sqof M))) rfl rfl 49 (mv M) B2.out (info49 _ (tab_len _)) Hsz.out (mv_one _) ?_) | (refine wpList_load_row rfl 49 _ rfl b rfl 49 (mv (tab (sqof M))) (0, 0) _ B3.out Try.underlying49 rfl (info49 _ (tab_len _)) ?_) | (refine wpList_store_row rfl 49 _ _ rfl w3.heap.size (mv (tab (sqof M))) rfl rfl 49 z32 (new_zr w3 b _) (info49 _ (tab_len _)) (z32_size _ (tab_len _)) (mv_one _) ?_))
        go_roundw
        case rel =>
          obtain ⟨f', rfl⟩ : ∃ f', f = f' + 1 := by
            cases f with
            | zero => have := Hzf.out; simp at this; omega
            | succ f' => exact ⟨f', rfl⟩
          have hp := Hzf.out
          rw [Nat.pow_succ] at hp
          refine ⟨f', tab (sqof M), r, z / 2, w3.heap.size, ?_, by omega, tab_len _, rfl, rfl, rfl, by omega, by have := hg4.size; simpa using this, setRow_heap _ _ _ _ _ _ (new_zr w3 b _), (hg4.alloc _ _).setRow (by have := hg4.size; simpa using this) _⟩
          rw [← Hbe.out, behF_even _ _ _ _ (by omega) (by have := Hodd.out; omega), show (z / 2).toNat = z.toNat / 2 by omega]
        case measure => simp [intOf]; omega
    · go_wp2_with fail
      go_ret
      have e := Hbe.out
      rw [show z.toNat = 0 by omega, behF_zero] at e
      rw [e]
      exact ⟨rfl, hgr⟩

theorem noughts_any (v : Int) (x : BitVec 32) (hv : v = U x) (n : Int) (h0 : -9223372036854775808 ≤ n) (h1 : n ≤ 9223372036854775807) (w : World) :
    Calls Try.prog 13 #[.int .u32 v, .int .i64 n] w fun e w' => e = .returned (.int .u32 (U (~~~(beh (~~~x) n.toNat)))) ∧ GB w w' := by
  subst hv
  have hn := U_not x
  have hn2 := U_not (beh (~~~x) n.toNat)
  go_enter Try.func13, Try.ntmps13
  go_wp2_with fail
  refine (behind_any _ (~~~x) rfl n h0 h1 _).mono ?_
  rintro e w1 ⟨rfl, hg⟩
  go_wp2
  go_ret
  exact ⟨rfl, hg⟩
theorem join_any (v : Int) (x : BitVec 32) (hv : v = U x) (u : Int) (y : BitVec 32) (hu : u = U y) (n : Int) (h0 : -9223372036854775808 ≤ n) (h1 : n ≤ 9223372036854775807) (w : World) :
    Calls Try.prog 15 #[.int .u32 v, .int .u32 u, .int .i64 n] w fun e w' => e = .returned (.int .u32 (U (beh x n.toNat ^^^ y))) ∧ GB w w' := by
  subst hv
  subst hu
  have hn := U_xor (beh x n.toNat) y
  go_enter Try.func15, Try.ntmps15
  go_wp2_with fail
  refine (behind_any _ x rfl n h0 h1 _).mono ?_
  rintro e w1 ⟨rfl, hg⟩
  go_wp2
  go_ret
  exact ⟨rfl, hg⟩
end Go.Proofs.Ytncgfcmjeojocaa
