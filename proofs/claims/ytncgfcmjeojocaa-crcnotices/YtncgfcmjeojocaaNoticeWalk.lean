/- The walk of the law on turned bits: it returns true, for every text within the form's own reach, every place and every pattern; nothing that was there is turned. -/
import Derived.Test.YtncgfcmjeojocaaJoinAids
import Derived.Test.YtncgfcmjeojocaaNotice
import Derived.Lib.ConvBytes
import Derived.Laws.IdiomStrings
namespace Go.Proofs.Ytncgfcmjeojocaa
open Go.RowKit
def flipTo (L : List UInt8) (q X : Nat) : Nat → List UInt8
  | 0 => L
  | k + 1 => (flipTo L q X k).set (q + k) ((flipTo L q X k).getD (q + k) 0 ^^^ xb X k)
theorem flipTo_len (L : List UInt8) (q X k : Nat) : (flipTo L q X k).length = L.length := by
  induction k with
  | zero => rfl
  | succ k ih => show (List.set _ _ _).length = _; rw [List.length_set, ih]
theorem flip_five (P Q : List UInt8) (m0 m1 m2 m3 m4 : UInt8) (X : Nat) :
    flipTo (P ++ [m0, m1, m2, m3, m4] ++ Q) P.length X 5 = P ++ List.zipWith (· ^^^ ·) [m0, m1, m2, m3, m4] [xb X 0, xb X 1, xb X 2, xb X 3, xb X 4] ++ Q := by
  simp [flipTo]
theorem cut_five (L : List UInt8) (q : Nat) (h : q + 5 ≤ L.length) : ∃ (P Q : List UInt8) (m0 m1 m2 m3 m4 : UInt8), L = P ++ [m0, m1, m2, m3, m4] ++ Q ∧ P.length = q := by
  have e : L = L.take q ++ L.drop q := (List.take_append_drop q L).symm
  have hl : (L.drop q).length = L.length - q := List.length_drop
  match hd : L.drop q with
  | m0 :: m1 :: m2 :: m3 :: m4 :: Q => exact ⟨L.take q, Q, m0, m1, m2, m3, m4, by rw [hd] at e; simpa using e, by rw [List.length_take]; omega⟩
  | [] | [_] | [_, _] | [_, _, _] | [_, _, _, _] => rw [hd] at hl; simp at hl; omega
theorem flip_seen (L : List UInt8) (q : Nat) (h : q + 5 ≤ L.length) (y : BitVec 32) (s X : Nat) (hs : s ≤ 7) (hX : X = y.toNat * 2 ^ s) (hy : y ≠ 0#32) : more 0#32 (flipTo L q X 5) ≠ more 0#32 L := by
  obtain ⟨P, Q, m0, m1, m2, m3, m4, rfl, rfl⟩ := cut_five L q h
  rw [flip_five]
  exact noticed P [m0, m1, m2, m3, m4] Q y s X rfl hs hX hy
def bc (l : List UInt8) (rest : Array Value) : Array Value := (l.map fun c => Value.int .u8 (c.toNat : Int)).toArray ++ rest
theorem bc_get (l : List UInt8) (rest : Array Value) (p : Nat) (h : p < l.length) : (bc l rest)[p]? = some (.int .u8 ((l.getD p 0).toNat : Int)) := by
  unfold bc
  rw [Array.getElem?_append_left (by simpa using h)]
  simp [h]
theorem bc_set (l : List UInt8) (rest : Array Value) (p : Nat) (h : p < l.length) (c : UInt8) : (bc l rest).setIfInBounds p (.int .u8 (c.toNat : Int)) = bc (l.set p c) rest := by
  unfold bc
  rw [Array.setIfInBounds_append_left (by simpa using h)]
  congr 1
  simp [List.map_set]
theorem bc_size (l : List UInt8) (rest : Array Value) : (bc l rest).size = l.length + rest.size := by simp [bc]
theorem below_bytes (w : World) (s : ByteArray) : Below w.heap.size w (Lib.bytesWorld w 5 s) :=
  ⟨rfl, rfl, rfl, by rw [Lib.bytesWorld_size]; omega, fun k hk => Lib.bytesWorld_at_old w 5 s k hk⟩
theorem bytes_row (w : World) (s : ByteArray) : ∃ rest : Array Value, (Lib.bytesWorld w 5 s).heap[w.heap.size]? = some (.cells (bc s.data.toList rest) 5 ((bc s.data.toList rest).size, (bc s.data.toList rest).size + 1)) := by
  refine ⟨Array.replicate (grownCap w s.size 0 5 - s.size) (.int .u8 0), ?_⟩
  have e : Lib.bytesCells w 5 s = bc s.data.toList (Array.replicate (grownCap w s.size 0 5 - s.size) (.int .u8 0)) := by
    unfold Lib.bytesCells bc
    congr 1
    rw [← Array.toList_map]
  rw [← e]; exact Lib.bytesWorld_at_new w 5 s
theorem row_set {W : World} {b p : Nat} {c : Array Value} {t : TypeId} {fr : Nat × Nat} {v : Value} (h : W.heap[b]? = some (.cells c t fr)) : (W.setCell ⟨b, p, none⟩ v).heap[b]? = some (.cells (c.setIfInBounds p v) t fr) := by
  rw [setCell_eq_setRow W b p c t fr v h]
  exact setRow_heap W b c _ t fr h
theorem not_frozen {W : World} {b p : Nat} {c : Array Value} {t : TypeId} (h : W.heap[b]? = some (.cells c t (c.size, c.size + 1))) (hp : p < c.size) : W.frozen? ⟨b, p, none⟩ = false := by
  unfold World.frozen?
  simp only [h]
  simp; omega
theorem xor_byte (c : UInt8) (X k : Nat) : bits .xor .u8 (c.toNat : Int) ((X : Int) / 2 ^ (8 * k) % 256) = ((c ^^^ xb X k).toNat : Int) := by
  have e : (X : Int) / 2 ^ (8 * k) % 256 = ((X / 2 ^ (8 * k) % 256 : Nat) : Int) := by simp
  rw [e, u8_xor_nat _ _ c.toNat_lt (by omega), UInt8.toNat_xor, xb_nat]
theorem size_wrap (y : BitVec 32) (s : Nat) (hs : s ≤ 7) : IntKind.u64.wrap (U y * 2 ^ s) = ((y.toNat * 2 ^ s : Nat) : Int) := by
  have hy := y.isLt
  have h : y.toNat * 2 ^ s < 2 ^ 32 * 2 ^ 7 := Nat.mul_lt_mul_of_lt_of_le hy (Nat.pow_le_pow_right (by omega) hs) (Nat.pow_pos (by omega))
  unfold U
  rw [IntKind.wrap_u64, show ((y.toNat : Nat) : Int) * (2 : Int) ^ s = ((y.toNat * 2 ^ s : Nat) : Int) by simp]
  omega
set_option maxHeartbeats 1000000 in
set_option maxRecDepth 100000 in
theorem notice_walk (a0 : ByteArray) (a1 : Int) (y : BitVec 32) (b0 : a0.size ≤ 140737488351232) (h5 : 5 ≤ a0.size) (hy : y ≠ 0#32) (w : World) :
    Calls Try.prog 7 #[.string a0, .int .i64 a1, .int .u32 (U y)] w fun e w' => e = .returned (.bool true) ∧ w.keptBut w' (fun _ => False) := by
  have hl : ¬ ((a0.size : Int) < 5) := by omega
  have hy0 : (U y == 0) = false := by
    rw [beq_eq_false_iff_ne]; intro h
    exact hy (U_inj (h.trans (show (0 : Int) = U 0#32 from rfl)))
  have hcv := Lib.run_convert_string_bytes (P := Try.prog) w 9 36 5 a0 Try.underlying9 Try.underlying36 Try.underlying5
  obtain ⟨rest, hrow⟩ := bytes_row w a0
  have hbel := below_bytes w a0
  generalize grownCap w a0.size 0 5 = cap at *
  generalize Lib.bytesWorld w 5 a0 = V at *
  obtain ⟨s, hs7, hs0⟩ := i64_mask a1 7 (by omega)
  have hs : bits .and .i64 a1 7 = (s : Int) := hs0
  obtain ⟨p, hp7, hp0⟩ := i64_mask (a1 / 8) 16777215 (by omega)
  have hp : bits .and .i64 (a1 / 8) 16777215 = (p : Int) := hp0
  have y0 := U_lo y
  have y1 := U_hi y
  obtain ⟨q, hq, hq5⟩ : ∃ q : Nat, (p : Int) % ((a0.size : Int) - 4) = (q : Int) ∧ q + 5 ≤ a0.size :=
    ⟨p % (a0.size - 4), by rw [Int.natCast_emod, Int.natCast_sub (by omega)]; rfl, by have := Nat.mod_lt p (show 0 < a0.size - 4 by omega); omega⟩
  have hX := size_wrap y s hs7
  have hseen := flip_seen a0.data.toList q (by simpa using hq5) y s (y.toNat * 2 ^ s) hs7 rfl hy
  have hlen : a0.data.toList.length = a0.size := by simp
  have hXl : y.toNat * 2 ^ s < 549755813888 := by
    have hyl := y.isLt
    have h : y.toNat * 2 ^ s < 2 ^ 32 * 2 ^ 7 := Nat.mul_lt_mul_of_lt_of_le hyl (Nat.pow_le_pow_right (by omega) hs7) (Nat.pow_pos (by omega))
    omega
  generalize y.toNat * 2 ^ s = X at *
  generalize hLL : a0.data.toList = L at *
  have HL := hide hLL
  have Hseen := hide hseen
  have Hlen := hide hlen
  have R0 := hide hrow
  have Hbel := hide hbel
  clear hs0 hp0 hseen hrow hbel hlen hy hLL
  go_enter Try.func7, Try.ntmps7
  go_wp2_with fail
  clear y0 y1
  go_loopw [10] (fun i W => ∃ k : Nat, k ≤ 5 ∧ i = .int .i64 k ∧ W.heap[w.heap.size]? = some (.cells (bc (flipTo L q X k) rest) 5 ((bc (flipTo L q X k) rest).size, (bc (flipTo L q X k) rest).size + 1)) ∧ Below w.heap.size w W) (fun i _ => 5 - (intOf i).toNat)
  case atStart => exact ⟨0, Nat.zero_le _, rfl, R0.out, Hbel.out⟩
  case round =>
    obtain ⟨k, hk, rfl, hrow, hbel⟩ := hrel
    have Rk := hide hrow
    have Bk := hide hbel
    clear hrow hbel
    by_cases hlt : k < 5
    · have hll : q + k < (flipTo L q X k).length := by rw [flipTo_len, Hlen.out]; omega
      have hc : wr.cell? ⟨w.heap.size, q + k, none⟩ = some (.int .u8 (((flipTo L q X k).getD (q + k) 0).toNat : Int)) := by
        rw [cell_of_row _ _ _ _ _ _ Rk.out]; exact bc_get _ _ _ hll
      have hf : wr.frozen? ⟨w.heap.size, q + k, none⟩ = false := not_frozen Rk.out (by rw [bc_size]; omega)
      have Hset := hide (bc_set (flipTo L q X k) rest (q + k) hll ((flipTo L q X k).getD (q + k) 0 ^^^ xb X k))
      have hqk : q + k < a0.size := by omega
      obtain ⟨c, hcc⟩ : ∃ c, c = (flipTo L q X k).getD (q + k) 0 := ⟨_, rfl⟩
      rw [← hcc] at hc
      have Hcc := hide hcc
      have hcl := c.toNat_lt
      clear hcc hll
      go_wp2_with fail
      go_roundw
      case rel =>
        refine ⟨k + 1, by omega, by go_num, ?_, ?_⟩
        · have h := row_set (p := q + k) (v := .int .u8 ((c ^^^ xb X k).toNat : Int)) Rk.out
          rw [Hcc.out, Hset.out] at h
          rw [xor_byte, Hcc.out, show (bc (flipTo L q X (k + 1)) rest).size = (bc (flipTo L q X k) rest).size by rw [bc_size, bc_size, flipTo_len, flipTo_len]]
          exact h
        · exact Bk.out.setCell (Nat.le_refl _) _
      case measure => simp [intOf]; omega
    · obtain rfl : k = 5 := by omega
      obtain ⟨F, hF⟩ : ∃ F, F = flipTo L q X 5 := ⟨_, rfl⟩
      have hFl : F.length = a0.size := by rw [hF, flipTo_len, Hlen.out]
      have hcb : (convert 36 9 (.slice (some ⟨w.heap.size, 0, none⟩) a0.size cap)).run Try.prog wr = .ok (.string ⟨F.toArray⟩) wr := by
        rw [← hFl]
        refine run_convert_bytes_back wr 36 9 5 _ cap F Try.underlying36 Try.underlying5 Try.underlying9 (fun j hj => ?_)
        rw [addr_add0, cell_of_row _ _ _ _ _ _ Rk.out, ← hF, bc_get _ _ _ hj]
        simp [hj]
      have c1 : ∀ W, Calls Try.prog 8 #[.string ⟨F.toArray⟩] W fun e w' => e = .returned (.int .u32 (U (more 0#32 F))) ∧ w' = W := fun W => of_any ⟨F.toArray⟩ (by show F.toArray.size ≤ maxLen; rw [List.size_toArray, hFl]; unfold maxLen; omega) W
      have c0 : ∀ W, Calls Try.prog 8 #[.string a0] W fun e w' => e = .returned (.int .u32 (U (more 0#32 L))) ∧ w' = W := fun W => by rw [← HL.out]; exact of_any a0 (by unfold maxLen; omega) W
      have hne : (U (more 0#32 F) != U (more 0#32 L)) = true := by
        rw [bne_iff_ne, hF]; exact fun h => Hseen.out (U_inj h)
      have Hc1 := hide c1
      have Hc0 := hide c0
      generalize more 0#32 F = R1 at *
      generalize more 0#32 L = R2 at *
      have HF := hide hF
      clear c1 c0 hF hFl hk hlt
      go_wp2_with fail
      refine (Hc1.out _).mono ?_
      rintro e u1 ⟨rfl, rfl⟩
      go_wp2_with fail
      refine (Hc0.out _).mono ?_
      rintro e u2 ⟨rfl, rfl⟩
      go_wp2_with fail
      refine (alive_any _).mono ?_
      rintro e u3 ⟨rfl, hg⟩
      go_wp2
      go_ret
      exact ⟨rfl, World.keptBut_trans (Bk.out.frame _) hg.1⟩
theorem few_walk (a0 : ByteArray) (a1 : Int) (y : BitVec 32) (h5 : a0.size < 5 ∨ (5 ≤ a0.size ∧ y = 0#32)) (w : World) :
    Calls Try.prog 7 #[.string a0, .int .i64 a1, .int .u32 (U y)] w fun e w' => e = .returned (.bool true) ∧ w.keptBut w' (fun _ => False) := by
  rcases h5 with h5 | ⟨h5, rfl⟩
  · go_enter Try.func7, Try.ntmps7
    go_wp2_with fail
    refine (alive_any _).mono ?_
    rintro e u1 ⟨rfl, hg⟩
    go_wp2
    go_ret
    exact ⟨rfl, hg.1⟩
  · have hl : ¬ ((a0.size : Int) < 5) := by omega
    have hy0 : (U 0#32 == 0) = true := rfl
    go_enter Try.func7, Try.ntmps7
    go_wp2_with fail
    refine (alive_any _).mono ?_
    rintro e u1 ⟨rfl, hg⟩
    go_wp2
    go_ret
    exact ⟨rfl, hg.1⟩
end Go.Proofs.Ytncgfcmjeojocaa
