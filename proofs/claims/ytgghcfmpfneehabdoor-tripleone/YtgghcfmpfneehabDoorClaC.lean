/- A row of schemas as it is read; the order of claim's search; BinarySearchFunc over such a row. -/
import Derived.Test.YtgghcfmpfneehabDoorValR
import Derived.Test.YtgghcfmpfneehabDoorShelfB
import Derived.Lib.Bytealg
namespace Go.Proofs.YtgghcfmpfneehabDoor
open Go.RowKit
theorem cmpB_eq (a b : List UInt8) : Lib.compareBytes a b = 0 ↔ a = b := by
  induction a generalizing b with
  | nil => cases b <;> simp [Lib.compareBytes]
  | cons x a ih =>
    cases b with
    | nil => simp [Lib.compareBytes]
    | cons y b =>
      unfold Lib.compareBytes
      by_cases h1 : x < y
      · have : x ≠ y := fun e => by subst e; have := UInt8.lt_iff_toNat_lt.1 h1; omega
        simp [h1, this]
      · by_cases h2 : y < x
        · have : x ≠ y := fun e => by subst e; have := UInt8.lt_iff_toNat_lt.1 h2; omega
          simp [h1, h2, this]
        · have : x = y := by
            apply UInt8.toNat_inj.1
            have := mt UInt8.lt_iff_toNat_lt.2 h1
            have := mt UInt8.lt_iff_toNat_lt.2 h2
            omega
          simp [this, ih]
theorem cmpB_lt' (a b : List UInt8) : Lib.compareBytes a b < 0 ↔ a < b := by
  induction a generalizing b with
  | nil => cases b <;> simp [Lib.compareBytes]
  | cons x a ih =>
    cases b with
    | nil => simp [Lib.compareBytes]
    | cons y b =>
      unfold Lib.compareBytes
      rw [List.cons_lt_cons_iff]
      by_cases h1 : x < y
      · simp [h1]
      · by_cases h2 : y < x
        · have : x ≠ y := fun e => by subst e; have := UInt8.lt_iff_toNat_lt.1 h2; omega
          simp [h1, h2, this]
        · have : x = y := by
            apply UInt8.toNat_inj.1
            have := mt UInt8.lt_iff_toNat_lt.2 h1
            have := mt UInt8.lt_iff_toNat_lt.2 h2
            omega
          simp [this, ih]
/-- A schema: its name, its type, its six marks. -/
abbrev Sm := ByteArray × Int × Bool × Bool × Bool × Bool × Bool × Bool
/-- Its cells. -/
def cl8 (S : Sm) : List Value := [.string S.1, .int .u8 S.2.1, .bool S.2.2.1, .bool S.2.2.2.1, .bool S.2.2.2.2.1, .bool S.2.2.2.2.2.1, .bool S.2.2.2.2.2.2.1, .bool S.2.2.2.2.2.2.2]
/-- A row of schemas as it is read. -/
def Row8 (W : World) (g off : Nat) (L : List Sm) : Prop := ∀ j (h : j < L.length) c v, (cl8 L[j])[c]? = some v → W.cell? ⟨g, off + j * 8 + c, none⟩ = some v
theorem Row8.next {W W' : World} {g off : Nat} {L : List Sm} (h : Row8 W g off L) (hb : Bel W W') : Row8 W' g off L := fun j hj c v hv => hb.cell (h j hj c v hv)
theorem Row8.cells {W : World} {g off : Nat} {L : List Sm} (h : Row8 W g off L) {j : Nat} (hj : j < L.length) {p : ByteArray} {t : Int} {l x tm od rv ct : Bool} (e : L[j] = (p, t, l, x, tm, od, rv, ct)) :
    W.cell? ⟨g, off + j * 8, none⟩ = some (.string p) ∧ W.cell? ⟨g, off + j * 8 + 1, none⟩ = some (.int .u8 t) ∧ W.cell? ⟨g, off + j * 8 + 2, none⟩ = some (.bool l) ∧ W.cell? ⟨g, off + j * 8 + 3, none⟩ = some (.bool x) ∧ W.cell? ⟨g, off + j * 8 + 4, none⟩ = some (.bool tm) ∧ W.cell? ⟨g, off + j * 8 + 5, none⟩ = some (.bool od) ∧ W.cell? ⟨g, off + j * 8 + 6, none⟩ = some (.bool rv) ∧ W.cell? ⟨g, off + j * 8 + 7, none⟩ = some (.bool ct) :=
  ⟨h j hj 0 _ (by rw [e]; rfl), h j hj 1 _ (by rw [e]; rfl), h j hj 2 _ (by rw [e]; rfl), h j hj 3 _ (by rw [e]; rfl), h j hj 4 _ (by rw [e]; rfl), h j hj 5 _ (by rw [e]; rfl), h j hj 6 _ (by rw [e]; rfl), h j hj 7 _ (by rw [e]; rfl)⟩
/-- How a schema stands to a name. -/
def cS (S : Sm) (q : ByteArray) : Int := Lib.compareBytes S.1.data.toList q.data.toList
set_option maxRecDepth 100000 in
theorem cl1_any (p : ByteArray) (t : Int) (l x tm od rv ct : Bool) (q : ByteArray) (w : World) : Calls Tryd.prog 29 #[.agg #[.string p, .int .u8 t, .bool l, .bool x, .bool tm, .bool od, .bool rv, .bool ct], .string q] w fun e w' => e = .returned (.int .i64 (cS (p, t, l, x, tm, od, rv, ct) q)) ∧ Bel w w' := by
  have hC := hide (fun W => Tryd.strings_Compare p q W)
  have HE := hide (show cS (p, t, l, x, tm, od, rv, ct) q = Lib.compareBytes p.data.toList q.data.toList from rfl)
  generalize cS (p, t, l, x, tm, od, rv, ct) q = E at HE ⊢
  rw [← HE.out] at hC
  go_enter Tryd.func29, Tryd.ntmps29
  go_wp2_with (go_at_call 30; refine (hC.out _).mono ?_; rintro e w1 ⟨rfl, rfl⟩)
  go_ret
  exact ⟨rfl, (Bel.refl _).alloc _⟩
/-- What the search answers. -/
def bsR (L : List Sm) (q : ByteArray) (i : Nat) (f : Bool) : Prop := i ≤ L.length ∧ (∀ k, k + 1 = i → ∀ h : k < L.length, cS L[k] q < 0) ∧ (∀ h : i < L.length, 0 ≤ cS L[i] q) ∧ (f = true ↔ ∃ h : i < L.length, cS L[i] q = 0)
set_option maxHeartbeats 1000000 in
set_option maxRecDepth 100000 in
theorem bs_any (g off cap : Nat) (L : List Sm) (q : ByteArray) (w : World) (hl : L.length ≤ 1000000) (hrow : Row8 w g off L) :
    Calls Tryd.prog 28 #[.slice (some ⟨g, off, none⟩) L.length cap, .string q, .func (.func 29) #[] #[]] w fun e w' => ∃ (i : Nat) (f : Bool), e = .returned (.tuple #[.int .i64 i, .bool f]) ∧ Bel w w' ∧ bsR L q i f := by
  obtain ⟨n, hn⟩ : ∃ n, L.length = n := ⟨_, rfl⟩
  rw [hn] at hl ⊢
  have Hn := hide hn
  have HR := hide hrow
  clear hn hrow
  go_enter Tryd.func28, Tryd.ntmps28
  go_wp2_with fail
  go_loopw [9, 10, 11] (fun vi vj _ W => ∃ i j : Nat, i ≤ j ∧ j ≤ n ∧ vi = .int .i64 i ∧ vj = .int .i64 j ∧ Bel w W ∧ Hid ((∀ k, k + 1 = i → ∀ h : k < L.length, cS L[k] q < 0) ∧ (∀ h : j < L.length, 0 ≤ cS L[j] q))) (fun vi vj _ _ => (intOf vj - intOf vi).toNat)
  case atStart => exact ⟨0, n, Nat.zero_le _, Nat.le_refl _, rfl, rfl, Bel.refl _, hide ⟨fun k hk => by omega, fun h => by have := Hn.out; omega⟩⟩
  case round =>
    obtain ⟨i, j, hij, hjn, rfl, rfl, hb, HI⟩ := hrel
    have HB := hide hb
    clear hb
    by_cases hlt : i < j
    · obtain ⟨h, hh⟩ : ∃ h : Nat, (i + j) / 2 = h := ⟨_, rfl⟩
      have hi1 : ((i : Int) + (j : Int)) / 2 = (h : Int) := by omega
      have hhl : h < L.length := by have := Hn.out; omega
      have hhn : h < n := by omega
      obtain ⟨p, t, l, x, tm, od, rv, ct, he⟩ : ∃ p t l x tm od rv ct, L[h] = ((p, t, l, x, tm, od, rv, ct) : Sm) := ⟨_, _, _, _, _, _, _, _, rfl⟩
      have hC := hide (fun W => cl1_any p t l x tm od rv ct q W)
      rw [← he] at hC
      obtain ⟨c0, c1, c2, c3, c4, c5, c6, c7⟩ := (HR.out.next HB.out).cells hhl he
      obtain ⟨E, hE⟩ : ∃ E, cS L[h] q = E := ⟨_, rfl⟩
      rw [hE] at hC
      have HE := hide hE
      clear hE he
      have Hh := hide hh
      by_cases hE0 : E < 0
      · go_wp2_with (first | (go_at_call 29; refine (hC.out _).mono ?_; rintro e w1 ⟨rfl, hb1⟩) | go_in)
        refine ⟨⟨h + 1, j, by omega, hjn, by go_num, rfl, HB.out.trans hb1, hide ⟨fun k hk hkl => ?_, HI.out.2⟩⟩, ?_⟩
        · obtain rfl : k = h := by omega
          rw [HE.out]; exact hE0
        · simp [intOf]; omega
      · go_wp2_with (first | (go_at_call 29; refine (hC.out _).mono ?_; rintro e w1 ⟨rfl, hb1⟩) | go_in)
        refine ⟨⟨i, h, by omega, by omega, rfl, rfl, HB.out.trans hb1, hide ⟨HI.out.1, fun _ => by rw [HE.out]; exact hE0⟩⟩, ?_⟩
        simp [intOf]; omega
    · obtain rfl : i = j := by omega
      by_cases hn : i < n
      · have hhl : i < L.length := by have := Hn.out; omega
        obtain ⟨p, t, l, x, tm, od, rv, ct, he⟩ : ∃ p t l x tm od rv ct, L[i] = ((p, t, l, x, tm, od, rv, ct) : Sm) := ⟨_, _, _, _, _, _, _, _, rfl⟩
        have hC := hide (fun W => cl1_any p t l x tm od rv ct q W)
        rw [← he] at hC
        obtain ⟨c0, c1, c2, c3, c4, c5, c6, c7⟩ := (HR.out.next HB.out).cells hhl he
        obtain ⟨E, hE⟩ : ∃ E, cS L[i] q = E := ⟨_, rfl⟩
        rw [hE] at hC
        have HE := hide hE
        clear hE he
        go_wp2_with (first | (go_at_call 29; refine (hC.out _).mono ?_; rintro e w1 ⟨rfl, hb1⟩) | go_in)
        go_ret2
        refine ⟨i, E == 0, rfl, HB.out.trans hb1, by have := Hn.out; omega, HI.out.1, HI.out.2, ?_⟩
        rw [beq_iff_eq]
        exact ⟨fun e => ⟨hhl, by rw [HE.out]; exact e⟩, fun ⟨_, e⟩ => by rw [HE.out] at e; exact e⟩
      · go_wp2_with fail
        go_ret2
        refine ⟨i, false, rfl, HB.out, by have := Hn.out; omega, HI.out.1, HI.out.2, ?_⟩
        exact ⟨(fun e => by cases e), (fun ⟨h, _⟩ => by have := Hn.out; omega)⟩
end Go.Proofs.YtgghcfmpfneehabDoor
