/- What strings.SplitN at a blank returns: for every text. -/
import Derived.Test.YtgghcfmpfneehaaGreatDoorShelfK
import Derived.Test.YtgghcfmpfneehaaGreatDoorRdB
import Derived.Sort.EncStr
import Derived.Lib.Bytealg
namespace Go.Proofs.YtgghcfmpfneehaaGreatDoor
open Go.RowKit Go.Sort
/-- The first k blanks cut a text apart. -/
def spl : Nat → List UInt8 → List (List UInt8)
  | 0, l => [l]
  | k + 1, l => if Lib.indexByte l 32 < 0 then [l] else l.take (Lib.indexByte l 32).toNat :: spl k (l.drop ((Lib.indexByte l 32).toNat + 1))
theorem ib_bound (l : List UInt8) : Lib.indexByte l 32 < (l.length : Int) := by
  induction l with
  | nil => simp [Lib.indexByte]
  | cons c l ih =>
    simp only [Lib.indexByte, List.length_cons]
    split
    · omega
    · split
      · omega
      · omega
theorem info9 : (Tryz.prog.info? 9).map (fun i => (i.zero, i.size, i.bytes)) = some (some (.string ⟨#[]⟩), 1, 16) := by kernel_rfl
def rowS (P : List (List UInt8)) (n : Nat) : Array Value := (P.map encStr ++ List.replicate (n - P.length) (Value.string ⟨#[]⟩)).toArray
theorem rowS_nil (n : Nat) : madeCells #[.string ⟨#[]⟩] n = rowS [] n := by
  apply Array.ext
  · rw [size_madeCells]; simp [rowS]
  · intro i h1 h2
    simp [madeCells, rowS, Nat.mod_one]
theorem rowS_set (P : List (List UInt8)) (n : Nat) (x : List UInt8) (h : P.length < n) : (rowS P n).setIfInBounds P.length (encStr x) = rowS (P ++ [x]) n := by
  unfold rowS
  rw [List.setIfInBounds_toArray]
  congr 1
  rw [List.set_append_right _ _ (by simp)]
  simp only [List.length_map, Nat.sub_self, List.map_append, List.append_assoc]
  congr 1
  have : n - P.length = (n - (P ++ [x]).length) + 1 := by simp; omega
  rw [this, List.replicate_succ]
  rfl
theorem rowS_get (P : List (List UInt8)) (n j : Nat) (h : j < P.length) : (rowS P n)[j]? = some (.string ⟨P[j].toArray⟩) := by
  unfold rowS
  simp only [List.getElem?_toArray]
  rw [List.getElem?_append_left (by simpa using h)]
  simp [h, encStr]
theorem rowS_zero (P : List (List UInt8)) (n : Nat) (h : P.length < n) : (rowS P n)[P.length]? = some (.string ⟨#[]⟩) := by
  unfold rowS
  simp only [List.getElem?_toArray]
  rw [List.getElem?_append_right (by simp)]
  rw [List.length_map, Nat.sub_self, List.getElem?_replicate, if_pos (by omega)]
theorem spl_none {k : Nat} {l : List UInt8} (h : Lib.indexByte l 32 < 0) : spl k l = [l] := by
  cases k with
  | zero => rfl
  | succ k => rw [spl, if_pos h]
theorem spl_some {k m : Nat} {l : List UInt8} (h : Lib.indexByte l 32 = (m : Int)) : spl (k + 1) l = l.take m :: spl k (l.drop (m + 1)) := by
  rw [spl, if_neg (by omega), h]; rfl
theorem end_row {W : World} {B M i : Nat} {P L : List (List UInt8)} {r : ByteArray} (hi : P.length = i) (hM : i < M) (h2 : W.heap[B]? = some (.cells (rowS P M) 9)) (hL : L = P ++ [r.data.toList]) :
    L.length = i + 1 ∧ ∀ j (h : j < L.length), (W.setCell ⟨B, i, none⟩ (.string r)).cell? ⟨B, j, none⟩ = some (.string ⟨L[j].toArray⟩) := by
  subst hL
  refine ⟨by simp [hi], fun j h => ?_⟩
  have e := row_set (p := i) (v := .string r) h2
  rw [show (Value.string r) = encStr r.data.toList from rfl, ← hi, rowS_set _ _ _ (by omega)] at e
  rw [← hi]
  exact (cell_of e).trans (rowS_get _ _ _ h)
/-- A row of texts is returned, the texts of L. -/
def splR (w : World) (L : List (List UInt8)) (e : Ending) (w' : World) : Prop :=
  ∃ c, e = .returned (.slice (some ⟨w.heap.size, 0, none⟩) L.length c) ∧ Bel w w' ∧ ∀ j (h : j < L.length), w'.cell? ⟨w.heap.size, j, none⟩ = some (.string ⟨L[j].toArray⟩)
set_option maxHeartbeats 1000000 in
set_option maxRecDepth 100000 in
theorem split_any (s : ByteArray) (hm : s.size ≤ 150000000000000) (w : World) :
    Calls Tryz.prog 67 #[.string s, .string ⟨#[32]⟩, .int .i64 0, .int .i64 4] w fun e w' => splR w (spl (min 3 s.size) s.data.toList) e w' := by
  obtain ⟨N, hN⟩ : ∃ N, min 3 s.size = N := ⟨_, rfl⟩
  rw [hN]
  have hN3 : N ≤ 3 := by omega
  obtain ⟨M, hM⟩ : ∃ M, N + 1 = M := ⟨_, rfl⟩
  have hmin : min (4 : Int) ((s.size : Int) + 1) = (M : Int) := by omega
  have hw1 : IntKind.i64.wrap ((s.size : Int) + 1) = (s.size : Int) + 1 := by rw [IntKind.wrap_i64]; omega
  have hmk := run_make_row' (P := Tryz.prog) 43 9 (.string ⟨#[]⟩) 16 Tryz.underlying43 info9 rfl .i64 .i64 M (by omega) (by omega)
  rw [rowS_nil] at hmk
  have CI := hide (fun (t : ByteArray) W => Tryz.strings_Index_one t 32 W)
  have hM4 : M ≤ 4 := by omega
  have HM := hide hM
  obtain ⟨L, hL⟩ : ∃ L, spl N s.data.toList = L := ⟨_, rfl⟩
  rw [hL]
  have HL := hide hL
  clear hN hN3 hM hL
  go_enter Tryz.func67, Tryz.ntmps67
  go_wp2_with fail
  clear hmk
  go_loopw [0, 10, 11] (fun vs vi _ W => ∃ (i : Nat) (r : ByteArray) (P : List (List UInt8)), vi = .int .i64 i ∧ vs = .string r ∧ i ≤ N ∧ r.size ≤ 150000000000000 ∧ Hid (P.length = i ∧ L = P ++ spl (N - i) r.data.toList) ∧ Hid (W.heap[w.heap.size]? = some (.cells (rowS P M) 9) ∧ Below w.heap.size w W)) (fun _ vi _ _ => 5 - (intOf vi).toNat)
  case atStart => exact ⟨0, s, [], rfl, rfl, Nat.zero_le _, hm, hide ⟨rfl, by rw [← HL.out]; rfl⟩, hide ⟨heap_alloc_new w _, Below.alloc (Below.refl _ _) (Nat.le_refl _) _⟩⟩
  case round =>
    obtain ⟨i, r, P, rfl, rfl, hi, hr, H1, H2⟩ := hrel
    have hc0 : wr.cell? ⟨w.heap.size, i, none⟩ = some (.string ⟨#[]⟩) := by
      rw [cell_of H2.out.1, ← H1.out.1]
      exact rowS_zero _ _ (by have := H1.out.1; have := HM.out; omega)
    have hf0 : wr.frozen? ⟨w.heap.size, i, none⟩ = false := free_row H2.out.1
    by_cases hlt : i < N
    · have hlt2 : (i : Int) < (M : Int) - 1 := by have := HM.out; omega
      by_cases hneg : Lib.indexByte r.data.toList 32 < 0
      · have HL2 := hide (show L = P ++ [r.data.toList] by rw [H1.out.2, spl_none hneg])
        have HC := hide (fun W => CI.out r W)
        generalize Lib.indexByte r.data.toList 32 = x at HC hneg
        have iM : (i : Int) + 1 ≤ (M : Int) := by have := HM.out; omega
        go_wp2_with (go_at_call 99; refine (HC.out _).mono ?_; rintro e w1 ⟨rfl, rfl⟩)
        go_ret
        obtain ⟨e1, e2⟩ := end_row H1.out.1 (by have := HM.out; omega) H2.out.1 HL2.out
        exact ⟨M, by rw [e1]; rfl, H2.out.2.setCell (Nat.le_refl _) _, e2⟩
      · obtain ⟨m, hmm⟩ : ∃ m : Nat, Lib.indexByte r.data.toList 32 = (m : Int) := ⟨(Lib.indexByte r.data.toList 32).toNat, by omega⟩
        have hb := ib_bound r.data.toList
        have hml : m < r.size := by rw [hmm] at hb; have h2 : r.data.toList.length = r.size := rfl; omega
        have CI2 := CI.out r
        rw [hmm] at CI2
        have HC := hide CI2
        have Hmm := hide hmm
        clear CI2 hmm hneg hb
        have iw : IntKind.i64.wrap ((m : Int) + 1) = (m : Int) + 1 := by rw [IntKind.wrap_i64]; omega
        have ib : (m : Int) + 1 ≤ (r.size : Int) := by omega
        have ic : (m : Int) ≤ (r.size : Int) := by omega
        go_wp2_with (go_at_call 99; refine (HC.out _).mono ?_; rintro e w1 ⟨rfl, rfl⟩)
        go_roundw
        case rel =>
          have e1 : (spl (N - i) r.data.toList) = r.data.toList.take m :: spl (N - (i + 1)) (r.data.toList.drop (m + 1)) := by
            rw [show N - i = (N - (i + 1)) + 1 by omega]; exact spl_some Hmm.out
          refine ⟨i + 1, r.extract (m + 1) r.size, P ++ [r.data.toList.take m], by go_num, rfl, by omega, by simp; omega, hide ⟨by simp [H1.out.1], ?_⟩, hide ⟨?_, H2.out.2.setCell (Nat.le_refl _) _⟩⟩
          · rw [H1.out.2, e1, ba_rest]; simp
          · rw [row_set H2.out.1, ← H1.out.1, show (Value.string (r.extract 0 m)) = encStr (r.data.toList.take m) by unfold encStr; congr 1; apply ba_ext; simp, rowS_set _ _ _ (by have := H1.out.1; have := HM.out; omega)]
        case measure => simp [intOf]; omega
    · obtain rfl : i = N := by omega
      have HL2 := hide (show L = P ++ [r.data.toList] by rw [H1.out.2, Nat.sub_self]; rfl)
      have iM : (i : Int) + 1 ≤ (M : Int) := by have := HM.out; omega
      have iN : ¬ (i : Int) < (M : Int) - 1 := by have := HM.out; omega
      go_wp2_with fail
      go_ret
      obtain ⟨e1, e2⟩ := end_row H1.out.1 (by have := HM.out; omega) H2.out.1 HL2.out
      exact ⟨M, by rw [e1]; rfl, H2.out.2.setCell (Nat.le_refl _) _, e2⟩
set_option maxRecDepth 100000 in
theorem splitN_any (s : ByteArray) (hm : s.size ≤ 150000000000000) (w : World) :
    Calls Tryz.prog 34 #[.string s, .string ⟨#[32]⟩, .int .i64 4] w fun e w' => splR w (spl (min 3 s.size) s.data.toList) e w' := by
  have hC := hide (fun W => split_any s hm W)
  generalize spl (min 3 s.size) s.data.toList = L at hC ⊢
  go_enter Tryz.func34, Tryz.ntmps34
  go_wp2_with fail
  refine (hC.out _).mono ?_
  rintro e w' ⟨c, rfl, hb, h⟩
  go_wp2_with fail
  go_ret
  exact ⟨c, rfl, hb, h⟩
end Go.Proofs.YtgghcfmpfneehaaGreatDoor
