/- What the document's Text and ReadText return: for every write that may be, for every line. -/
import Derived.Test.YtgghcfmpfneehaaGreatDoorRfA
import Derived.Test.YtgghcfmpfneehaaGreatDoorTriF
import Derived.Test.YtgghcfmpfneehaaGreatDoorValL
import Derived.Test.YtgghcfmpfneehaaGreatDoorValV
import Derived.Deep.RegionWith
namespace Go.Proofs.YtgghcfmpfneehaaGreatDoor
open Go.RowKit
theorem txt_cat {c : UInt8} {N V WB : List UInt8} {p : ByteArray} (h : WB = c :: 32 :: N ++ 32 :: p.data.toList ++ 32 :: V) : (⟨#[c, 32]⟩ ++ ⟨N.toArray⟩ ++ ⟨#[32]⟩ ++ p ++ ⟨#[32]⟩ ++ ⟨V.toArray⟩ : ByteArray) = ⟨WB.toArray⟩ := by
  apply ba_ext
  simp [h]
set_option maxHeartbeats 1000000 in
set_option maxRecDepth 100000 in
theorem refWtext (d : Bool) (u : Nat) (hu : u < 18446744073709551616) (p : ByteArray) (k : Int) (b : Bool) (n : Int) (s : ByteArray) (v : Int) (n0 : -9223372036854775808 ≤ n) (n1 : n < 9223372036854775808) (v0 : 0 ≤ v) (v1 : v < 18446744073709551616) (h : eT u p k b n s v = 0) (w : World) :
    Calls Tryz.prog 39 #[wr d u p k b n s v] w fun e w' => e = .returned (.string ⟨(wtx d u p k b n s v).toArray⟩) ∧ Bel w w' := by
  obtain ⟨h1, h2, h3⟩ := eT_zero h
  have hps := name_short h2
  have hV := hide (fun W => rtext_yes h3 n0 n1 v0 v1 W)
  have hN := hide (fun W => uid_doc u hu W)
  have HW := hide (show wtx d u p k b n s v = sgn d :: 32 :: (48 :: 120 :: hexL u) ++ 32 :: p.data.toList ++ 32 :: ltr k b n s v from rfl)
  have hq1 : (48 :: 120 :: hexL u).length ≤ 100 := by
    have := hexL_len 15 u (by omega)
    simp only [List.length_cons]; omega
  have hq3 : (ltr k b n s v).length ≤ 20000 := ltr_len h3 ⟨n0, n1, v0, v1⟩
  generalize wtx d u p k b n s v = WB at HW ⊢
  generalize (48 :: 120 :: hexL u) = N at HW hN hq1
  generalize ltr k b n s v = V at HW hV hq3
  have q1 : ¬ (9223372036854775807 < 2 + N.length) := by omega
  have q2 : ¬ (9223372036854775807 < 2 + N.length + 1) := by omega
  have q3 : ¬ (9223372036854775807 < 2 + N.length + 1 + p.size) := by omega
  have q4 : ¬ (9223372036854775807 < 2 + N.length + 1 + p.size + 1) := by omega
  have q5 : ¬ (9223372036854775807 < 2 + N.length + 1 + p.size + 1 + V.length) := by omega
  have h8 := S8.new d u p k b n s v w
  have hb0 : Bel w (w.alloc (.cells #[.bool d, .int .u64 u, .string p, .int .u8 k, .bool b, .int .i64 n, .string s, .int .u64 v] 29)) := (Bel.refl _).alloc _
  clear h h1 h2 h3 hps hq1 hq3
  unfold ev at hV
  unfold wr
  cases d
  all_goals
    go_enter Tryz.func39, Tryz.ntmps39
    go_wp2_with fail
  · generalize w.alloc (.cells #[.bool false, .int .u64 u, .string p, .int .u8 k, .bool b, .int .i64 n, .string s, .int .u64 v] 29) = W1 at h8 hb0 ⊢
    generalize w.heap.size = B at *
    have h9 := h8.drew
    clear h8
    go_region_held3 (fun W => W.cell? ⟨B, 0, none⟩ = some (.bool false) ∧ W.cell? ⟨B, 1, none⟩ = some (.int .u64 u) ∧ W.cell? ⟨B, 2, none⟩ = some (.string p) ∧ W.cell? ⟨B, 3, none⟩ = some (.int .u8 k) ∧ W.cell? ⟨B, 4, none⟩ = some (.bool b) ∧ W.cell? ⟨B, 5, none⟩ = some (.int .i64 n) ∧ W.cell? ⟨B, 6, none⟩ = some (.string s) ∧ W.cell? ⟨B, 7, none⟩ = some (.int .u64 v)) (first | assumption | exact S8.next (by assumption) (by assumption)) ((first | (go_at_call 72; refine (hN.out _).mono ?_; rintro e w'' ⟨rfl, rfl⟩) | (go_at_call 73; refine (hV.out _).mono ?_; rintro e w'' ⟨rfl, hb⟩)))
    all_goals
      go_wp2
      go_ret
      refine ⟨?_, hb0.drew.trans (by assumption)⟩
      exact congrArg (fun t => Ending.returned (Value.string t)) (txt_cat HW.out)
  · generalize w.alloc (.cells #[.bool true, .int .u64 u, .string p, .int .u8 k, .bool b, .int .i64 n, .string s, .int .u64 v] 29) = W1 at h8 hb0 ⊢
    generalize w.heap.size = B at *
    have h9 := h8.drew
    clear h8
    go_region_held3 (fun W => W.cell? ⟨B, 0, none⟩ = some (.bool true) ∧ W.cell? ⟨B, 1, none⟩ = some (.int .u64 u) ∧ W.cell? ⟨B, 2, none⟩ = some (.string p) ∧ W.cell? ⟨B, 3, none⟩ = some (.int .u8 k) ∧ W.cell? ⟨B, 4, none⟩ = some (.bool b) ∧ W.cell? ⟨B, 5, none⟩ = some (.int .i64 n) ∧ W.cell? ⟨B, 6, none⟩ = some (.string s) ∧ W.cell? ⟨B, 7, none⟩ = some (.int .u64 v)) (first | assumption | exact S8.next (by assumption) (by assumption)) ((first | (go_at_call 72; refine (hN.out _).mono ?_; rintro e w'' ⟨rfl, rfl⟩) | (go_at_call 73; refine (hV.out _).mono ?_; rintro e w'' ⟨rfl, hb⟩)))
    all_goals
      go_wp2
      go_ret
      refine ⟨?_, hb0.drew.trans (by assumption)⟩
      exact congrArg (fun t => Ending.returned (Value.string t)) (txt_cat HW.out)
theorem ib_none (l : List UInt8) (h : ∀ c ∈ l, c ≠ 32) : Lib.indexByte l 32 < 0 := by
  induction l with
  | nil => simp [Lib.indexByte]
  | cons c l ih =>
    have hc : c ≠ 32 := h c (by simp)
    have h1 := ih (fun x hx => h x (by simp [hx]))
    have h2 := Lib.indexByte_ge l 32
    simp only [Lib.indexByte]
    rw [if_neg (by simpa using hc), if_pos (by simp; omega)]
    omega
/-- A write whose line this is, or there is none. -/
def okV (l : List UInt8) (d : Bool) (u : Nat) (p : ByteArray) (k : Int) (b : Bool) (n : Int) (s : ByteArray) (v e : Int) : Prop :=
  (e = 0 ∧ eT (u : Int) p k b n s v = 0 ∧ u < 18446744073709551616 ∧ inR n v ∧ wtx d (u : Int) p k b n s v = l) ∨
  (e = 41 ∧ d = false ∧ u = 0 ∧ p = ⟨#[]⟩ ∧ k = 0 ∧ b = false ∧ n = 0 ∧ s = ⟨#[]⟩ ∧ v = 0 ∧ noW l)
theorem okV_none (l : List UInt8) (h : noW l) : okV l false 0 ⟨#[]⟩ 0 false 0 ⟨#[]⟩ 0 41 := Or.inr ⟨rfl, rfl, rfl, rfl, rfl, rfl, rfl, rfl, rfl, h⟩
theorem one_answer {l : List UInt8} {d : Bool} {u : Nat} {p : ByteArray} {k : Int} {b : Bool} {n : Int} {s : ByteArray} {v e : Int} {d' : Bool} {u' : Nat} {p' : ByteArray} {k' : Int} {b' : Bool} {n' : Int} {s' : ByteArray} {v' e' : Int} (h : okW l d u p k b n s v e) (h' : okV l d' u' p' k' b' n' s' v' e') :
    d = d' ∧ u = u' ∧ p = p' ∧ k = k' ∧ b = b' ∧ n = n' ∧ s = s' ∧ v = v' ∧ e = e' := by
  rcases h with ⟨rfl, a1, a2, a3, a4, q⟩ | ⟨rfl, rfl, rfl, rfl, rfl, rfl, rfl, rfl, rfl, q⟩
  · rcases h' with ⟨rfl, b1, b2, b3, b4⟩ | ⟨_, _, _, _, _, _, _, _, _, q'⟩
    · obtain ⟨rfl, rfl, rfl, rfl, rfl, rfl, rfl, rfl⟩ := q _ _ _ _ _ _ _ _ b1 b2 b3 b4
      exact ⟨rfl, rfl, rfl, rfl, rfl, rfl, rfl, rfl, rfl⟩
    · exact absurd a4 (q' _ _ _ _ _ _ _ _ a1 a2 a3)
  · rcases h' with ⟨rfl, b1, b2, b3, b4⟩ | ⟨rfl, rfl, rfl, rfl, rfl, rfl, rfl, rfl, rfl, _⟩
    · exact absurd b4 (q _ _ _ _ _ _ _ _ b1 b2 b3)
    · exact ⟨rfl, rfl, rfl, rfl, rfl, rfl, rfl, rfl, rfl⟩
theorem no_head {s : ByteArray} (h : s.size < 2 ∨ ∃ h : 1 < s.size, s[1] ≠ 32 ∨ (s[0] ≠ 43 ∧ s[0] ≠ 45)) : noW s.data.toList := by
  intro d u p k b n t v h1 _ _ e
  rw [wtx_form] at e
  have hl := congrArg List.length e
  have e1 : s.data.toList.length = s.size := rfl
  simp only [List.length_append, List.length_cons, List.length_nil, e1] at hl
  rcases h with h | ⟨h, h2⟩
  · omega
  · obtain ⟨_, g0⟩ := get_zero (s := s) (c := sgn d) e.symm
    obtain ⟨_, g1⟩ := get_one (s := s) (c := sgn d) (d := 32) e.symm
    rcases h2 with h2 | ⟨h2, h3⟩
    · exact h2 g1
    · cases d
      · exact h2 g0
      · exact h3 g0
/-- What stands behind the sign and its blank, cut apart. -/
theorem rest_parts {s : ByteArray} {d : Bool} {u : Nat} {p : ByteArray} {k : Int} {b : Bool} {n : Int} {t : ByteArray} {v : Int} (h1 : eT (u : Int) p k b n t v = 0) (e : wtx d (u : Int) p k b n t v = s.data.toList) {r : ByteArray} (hr : r = s.extract 2 s.size) :
    spl 2 r.data.toList = [48 :: 120 :: hexL u, p.data.toList, ltr k b n t v] ∧ ∃ h : 0 < s.size, s[0] = sgn d := by
  rw [wtx_form] at e
  obtain ⟨g, g0⟩ := get_zero (s := s) (c := sgn d) e.symm
  refine ⟨?_, g, g0⟩
  subst hr
  rw [ba_rest, ← e]
  show spl 2 ((48 :: 120 :: hexL u) ++ 32 :: (p.data.toList ++ 32 :: ltr k b n t v)) = _
  rw [spl_at 1 _ _ hx_ne, spl_at 0 _ _ (nm_ne (eT_zero h1).2.1)]
  rfl
theorem no_cut {s r : ByteArray} (hr : r = s.extract 2 s.size) (h : (spl 2 r.data.toList).length < 3) : noW s.data.toList := by
  intro d u p k b n t v h1 _ _ e
  rw [(rest_parts h1 e hr).1] at h
  simp at h
theorem no_end {s r : ByteArray} (hr : r = s.extract 2 s.size) (hp : 0 < s.size) {A P V : List UInt8} (hs : spl 2 r.data.toList = [A, P, V]) {d : Bool} (hd : d = (s[0] == 45)) {u : Nat} (hu : okUid A (u : Int)) {p : ByteArray} (hP : p.data.toList = P) {k : Int} {b : Bool} {n : Int} {t : ByteArray} {v x : Int} (hv : okD V k b n t v x) (hE : ¬ (eT (u : Int) p k b n t v = 0 ∧ wtx d (u : Int) p k b n t v = s.data.toList)) : noW s.data.toList := by
  intro d' u' p' k' b' n' t' v' h1 h2 h3 e
  obtain ⟨e1, g, g0⟩ := rest_parts h1 e hr
  rw [hs] at e1
  simp only [List.cons.injEq, and_true] at e1
  obtain ⟨a1, a2, a3⟩ := e1
  apply hE
  have hu' := (eT_zero h1).1
  have eu : (u : Int) = (u' : Int) := hu.2.2.2 u' (by omega) h2 a1.symm
  have ep : p = p' := ba_ext (by rw [hP, a2])
  have ed : d = d' := by rw [hd, g0]; cases d' <;> decide
  subst ep ed
  rcases hv with ⟨_, m, _, l3⟩ | ⟨_, _, _, _, _, _, q⟩
  · rw [eu]
    refine ⟨eT_ok hu' (eT_zero h1).2.1 m, ?_⟩
    rw [← e, wtx_form, wtx_form, l3, a3]
  · exact absurd a3.symm (q k' b' n' t' v' (eT_zero h1).2.2 h3)
theorem take_nx {r : ByteArray} {i : Nat} (h : i < r.size) (hc : r[i] ≠ 32) (HA : ∀ c ∈ r.data.toList.take i, c ≠ 32) : ∀ c ∈ r.data.toList.take (i + 1), c ≠ 32 := by
  rw [take_snoc r i h]
  intro c hc'
  rcases List.mem_append.1 hc' with h1 | h1
  · exact HA c h1
  · rw [List.mem_singleton.1 h1]; exact hc
theorem drop_nx {r : ByteArray} {i j : Nat} (hj : i ≤ j) (h : j < r.size) (hc : r[j] ≠ 32) (HP : ∀ c ∈ (r.data.toList.drop i).take (j - i), c ≠ 32) : ∀ c ∈ (r.data.toList.drop i).take (j + 1 - i), c ≠ 32 := by
  have e : (r.data.toList.drop i).take (j + 1 - i) = (r.data.toList.drop i).take (j - i) ++ [r[j]] := by
    rw [show j + 1 - i = (j - i) + 1 by omega, List.take_succ_eq_append_getElem (by simp; omega)]
    congr 2
    simp [show i + (j - i) = j by omega]
    rfl
  rw [e]
  intro c hc'
  rcases List.mem_append.1 hc' with h1 | h1
  · exact HP c h1
  · rw [List.mem_singleton.1 h1]; exact hc
theorem cut_at {r : ByteArray} {i : Nat} (h : i < r.size) (hc : r[i] = 32) : r.data.toList = r.data.toList.take i ++ 32 :: r.data.toList.drop (i + 1) := by
  have := drop_cons r i h
  rw [hc] at this
  rw [← this, List.take_append_drop]
theorem cut_one {r : ByteArray} (HA : ∀ c ∈ r.data.toList.take r.size, c ≠ 32) : (spl 2 r.data.toList).length < 3 := by
  rw [show r.size = r.data.toList.length from rfl, List.take_length] at HA
  rw [spl_none (ib_none _ HA)]; simp
theorem cut_two {r : ByteArray} {i : Nat} (h : i < r.size) (hc : r[i] = 32) (HA : ∀ c ∈ r.data.toList.take i, c ≠ 32) (HP : ∀ c ∈ (r.data.toList.drop (i + 1)).take (r.size - (i + 1)), c ≠ 32) : (spl 2 r.data.toList).length < 3 := by
  rw [List.take_of_length_le (by simp)] at HP
  rw [cut_at h hc, spl_at 1 _ _ HA, spl_none (ib_none _ HP)]; simp
theorem cut_three {r : ByteArray} {i j : Nat} (h : i < r.size) (hc : r[i] = 32) (HA : ∀ c ∈ r.data.toList.take i, c ≠ 32) (hj : i + 1 ≤ j) (h2 : j < r.size) (hc2 : r[j] = 32) (HP : ∀ c ∈ (r.data.toList.drop (i + 1)).take (j - (i + 1)), c ≠ 32) :
    spl 2 r.data.toList = [(r.extract 0 i).data.toList, (r.extract (i + 1) j).data.toList, (r.extract (j + 1) r.size).data.toList] := by
  have e : r.data.toList.drop (i + 1) = (r.data.toList.drop (i + 1)).take (j - (i + 1)) ++ 32 :: r.data.toList.drop (j + 1) := by
    have h3 := drop_cons r j h2
    rw [hc2] at h3
    rw [← h3, show r.data.toList.drop j = (r.data.toList.drop (i + 1)).drop (j - (i + 1)) by rw [List.drop_drop]; congr 1; omega, List.take_append_drop]
  rw [cut_at h hc, spl_at 1 _ _ HA, e, spl_at 0 _ _ HP, ba_extract, ba_extract, ba_rest]
  simp [spl]
theorem okD_pos {l : List UInt8} {k : Int} {b : Bool} {n : Int} {s : ByteArray} {u e : Int} (h : okD l k b n s u e) : 0 ≤ u := by
  rcases h with ⟨_, _, r, _⟩ | ⟨_, _, _, _, _, rfl, _⟩
  · exact r.2.2.1
  · omega
theorem okD_in {l : List UInt8} {k : Int} {b : Bool} {n : Int} {s : ByteArray} {u e : Int} (h : okD l k b n s u e) (hm : mayV k b n s u) : inR n u := by
  rcases h with ⟨_, _, r, _⟩ | ⟨_, rfl, rfl, rfl, rfl, rfl, _⟩
  · exact r
  · exact ⟨by omega, by omega, by omega, by omega⟩
def docW (l : List UInt8) (w : World) (e : Ending) (w' : World) : Prop := ∃ d u p k b n s v x, e = .returned (.tuple #[wr d ((u : Nat) : Int) p k b n s v, .int .i64 x]) ∧ Bel w w' ∧ okV l d u p k b n s v x
set_option maxHeartbeats 4000000 in
set_option maxRecDepth 100000 in
theorem readText_d (s : ByteArray) (hm : s.size ≤ 150000000000000) (w : World) : Calls Tryz.prog 9 #[.string s] w fun e w' => docW s.data.toList w e w' := by
  have h0 := hide (BW.new w (wc false 0 ⟨#[]⟩ 0 false 0 ⟨#[]⟩ 0))
  by_cases hz : s.size < 2
  · have Hno := hide (no_head (Or.inl hz))
    have h1 : (s.size : Int) < 2 := by omega
    go_enter Tryz.func9, Tryz.ntmps9
    go_wp2_with fail
    exact bodyPost_ret (res_w2 (cs := wc false 0 ⟨#[]⟩ 0 false 0 ⟨#[]⟩ 0) rfl h0.out.hw info29 _ (.int .i64 41) rfl rfl) rfl ⟨false, 0, ⟨#[]⟩, 0, false, 0, ⟨#[]⟩, 0, 41, rfl, h0.out.bel', okV_none _ Hno.out⟩
  · have hp : 1 < s.size := by omega
    have h1 : ¬ (s.size : Int) < 2 := by omega
    by_cases c1 : s[1] = 32
    · have m1 : (((s[1]).toNat : Int) != 32) = false := by rw [c1]; rfl
      have h2 : (2 : Int) ≤ (s.size : Int) := by omega
      obtain ⟨r, hr⟩ : ∃ r, r = s.extract 2 s.size := ⟨_, rfl⟩
      have Hr := hide hr
      have hr2 : r.size ≤ 150000000000000 := by rw [hr]; simp; omega
      clear hr
      by_cases cs0 : s[0] = 43
      · have m2 : (((s[0]).toNat : Int) != 43) = false := by rw [cs0]; rfl
        have m3 : (((s[0]).toNat : Int) == 45) = false := by rw [cs0]; rfl
        go_enter Tryz.func9, Tryz.ntmps9
        go_wp2_with fail
        rw [← Hr.out]
        obtain ⟨W0, hW0⟩ : ∃ W0, w.alloc (.cells #[.bool false, .int .u64 0, .string ⟨#[]⟩, .int .u8 0, .bool false, .int .i64 0, .string ⟨#[]⟩, .int .u64 0] 29) = W0 := ⟨_, rfl⟩
        have H0 : Hid (BW w.heap.size w W0 (wc false 0 ⟨#[]⟩ 0 false 0 ⟨#[]⟩ 0)) := by rw [← hW0]; exact h0
        rw [hW0]
        clear hW0 h0
        generalize w.heap.size = B at *
        go_loop [5] (fun vi => ∃ i : Nat, vi = .int .i64 i ∧ i ≤ r.size ∧ Hid (∀ c ∈ r.data.toList.take i, c ≠ 32)) (fun vi => r.size - (intOf vi).toNat)
        case atStart => exact ⟨0, rfl, Nat.zero_le _, hide (by simp)⟩
        case round =>
          obtain ⟨i, rfl, hi, HA⟩ := hrel
          by_cases hlt : i < r.size
          · by_cases hc : r[i] = 32
            · have n1 : (((r[i]).toNat : Int) != 32) = false := by rw [hc]; rfl
              go_wp2_with fail
              go_loop [6] (fun vi => ∃ j : Nat, vi = .int .i64 j ∧ i + 1 ≤ j ∧ j ≤ r.size ∧ Hid (∀ c ∈ (r.data.toList.drop (i + 1)).take (j - (i + 1)), c ≠ 32)) (fun vi => r.size - (intOf vi).toNat)
              case atStart => exact ⟨i + 1, by go_num, Nat.le_refl _, hlt, hide (by simp)⟩
              case round =>
                obtain ⟨j, rfl, hj1, hj, HP⟩ := hrel
                by_cases hlt2 : j < r.size
                · by_cases hc2 : r[j] = 32
                  · have n2 : (((r[j]).toNat : Int) != 32) = false := by rw [hc2]; rfl
                    have n3 : ¬ (r.size : Int) ≤ (j : Int) := by omega
                    have n4 : (j : Int) + 1 ≤ (r.size : Int) := by omega
                    have Hs := hide (cut_three hlt hc HA.out hj1 hlt2 hc2 HP.out)
                    have hsz3 : (r.extract (j + 1) r.size).size ≤ 150000000000000 := by simp; omega
                    go_wp2_with fail
                    refine (readText_doc (r.extract (j + 1) r.size) hsz3 _).mono ?_
                    rintro e w3 ⟨k, b, n, t, v, ex, rfl, hb3, t3⟩
                    have T3 := hide t3
                    have H3 := hide ((H0.out.next hb3).next ((Bel.refl _).alloc (.cells #[.int .u8 k, .bool b, .int .i64 n, .string t, .int .u64 v] 25)))
                    clear t3 hb3 H0
                    unfold ev
                    go_wp2_with fail
                    obtain ⟨y0, y1, y2, y3, y4⟩ := S5.first k b n t v w3
                    generalize w3.alloc (.cells #[.int .u8 k, .bool b, .int .i64 n, .string t, .int .u64 v] 25) = W4 at *
                    generalize w3.heap.size = Bv at *
                    have hz : Bel W4 (W4.alloc (.cells #[.bool false, .int .u64 0, .string ⟨#[]⟩, .int .u8 0, .bool false, .int .i64 0, .string ⟨#[]⟩, .int .u64 0] 29)).drew := ((Bel.refl W4).alloc _).drew
                    have y0' := hz.cell y0
                    have y1' := hz.cell y1
                    have y2' := hz.cell y2
                    have y3' := hz.cell y3
                    have y4' := hz.cell y4
                    clear hz
                    have n5 : (i : Int) ≤ (r.size : Int) := by omega
                    have n6 : (i : Int) + 1 ≤ (j : Int) := by omega
                    have n7 : (j : Int) ≤ (r.size : Int) := by omega
                    have CU := hide (readUid_doc (r.extract 0 i) (by simp; omega))
                    have HU := hide (fun (W : World) => CU.out W)
                    clear CU
                    have iw : IntKind.i64.wrap ((i : Int) + 1) = (i : Int) + 1 := by rw [IntKind.wrap_i64]; omega
                    have n8 : (0 : Int) ≤ (i : Int) + 1 := by omega
                    have n9 : (0 : Int) ≤ (j : Int) := by omega
                    have n10 : (0 : Int) ≤ (i : Int) := by omega
                    have n11 : i + 1 ≤ j := hj1
                    have n12 : j ≤ r.size := by omega
                    have z4 := World.new_ne W4 _ y0
                    simp only at z4
                    clear y0' y1' y2' y3' y4'
                    have hh : W4.drew.cell? ⟨Bv, 0, none⟩ = some (.int .u8 k) ∧ W4.drew.cell? ⟨Bv, 1, none⟩ = some (.bool b) ∧ W4.drew.cell? ⟨Bv, 2, none⟩ = some (.int .i64 n) ∧ W4.drew.cell? ⟨Bv, 3, none⟩ = some (.string t) ∧ W4.drew.cell? ⟨Bv, 4, none⟩ = some (.int .u64 v) := ⟨y0, y1, y2, y3, y4⟩
                    go_region_held3 (fun W => W.cell? ⟨Bv, 0, none⟩ = some (.int .u8 k) ∧ W.cell? ⟨Bv, 1, none⟩ = some (.bool b) ∧ W.cell? ⟨Bv, 2, none⟩ = some (.int .i64 n) ∧ W.cell? ⟨Bv, 3, none⟩ = some (.string t) ∧ W.cell? ⟨Bv, 4, none⟩ = some (.int .u64 v)) (first | assumption | go_keep) ((go_at_call 38; refine (HU.out _).mono ?_; rintro e w' ⟨x, rfl, rfl, hx⟩))
                    all_goals
                      obtain ⟨m, hm2⟩ : ∃ m : Nat, x = (m : Int) := ⟨x.toNat, by have := hx.1; omega⟩
                      subst hm2
                      have HX := hide hx
                      have hv0 : 0 ≤ v := okD_pos T3.out
                      have h5 := hide (S8.new false (m : Int) (r.extract (i + 1) j) k b n t v W4).drew
                      have H5 := hide (H3.out.next ((Bel.refl W4).alloc (.cells #[.bool false, .int .u64 (m : Int), .string (r.extract (i + 1) j), .int .u8 k, .bool b, .int .i64 n, .string t, .int .u64 v] 29)).drew)
                      clear hh hx H3 y0 y1 y2 y3 y4 z4 HU
                      rename_i hHeld
                      clear hHeld
                      generalize (W4.alloc (.cells #[.bool false, .int .u64 (m : Int), .string (r.extract (i + 1) j), .int .u8 k, .bool b, .int .i64 n, .string t, .int .u64 v] 29)).drew = W5 at *
                      generalize W4.heap.size = Bw at *
                      obtain ⟨p, hpx⟩ : ∃ p, r.extract (i + 1) j = p := ⟨_, rfl⟩
                      rw [hpx] at h5 Hs ⊢
                      obtain ⟨c0, c1, c2, c3, c4, c5, c6, c7⟩ := h5.out
                      clear n2 n3 n4 n5 n6 n7 n8 n9 n10 n11 n12 iw n1 hpx
                      go_wp2_with fail
                      refine (refMay_any (m : Int) p k b n t v (by omega) hv0 _).mono ?_
                      rintro e w6 ⟨rfl, hb6⟩
                      have h6 := h5.out.next hb6
                      have H6 := hide (H5.out.next hb6)
                      clear c0 c1 c2 c3 c4 c5 c6 c7 h5 H5 hb6
                      have H6s := hide h6
                      obtain ⟨c0, c1, c2, c3, c4, c5, c6, c7⟩ := h6
                      by_cases hE : eT (m : Int) p k b n t v = 0
                      · have hE2 : (eT (m : Int) p k b n t v != 0) = false := by rw [hE]; rfl
                        have hin : inR n v := okD_in T3.out (eT_zero hE).2.2
                        have hmm : m < 18446744073709551616 := by have := HX.out.2.1; omega
                        have CT := hide (refWtext false m hmm p k b n t v hin.1 hin.2.1 hin.2.2.1 hin.2.2.2 hE)
                        obtain ⟨Zs, hZs⟩ : ∃ Zs : ByteArray, (⟨(wtx false (m : Int) p k b n t v).toArray⟩ : ByteArray) = Zs := ⟨_, rfl⟩
                        rw [hZs] at CT
                        unfold wr at CT
                        have HE := hide hE
                        clear hE
                        go_wp2_with fail
                        refine (CT.out _).mono ?_
                        rintro e w7 ⟨rfl, hb7⟩
                        have h7 := H6s.out.next hb7
                        have H7 := hide (H6.out.next hb7)
                        clear c0 c1 c2 c3 c4 c5 c6 c7 hb7 H6 H6s CT
                        obtain ⟨c0, c1, c2, c3, c4, c5, c6, c7⟩ := h7
                        by_cases hq : Zs = s
                        · have hq2 : (Zs.toList == s.toList) = true := by rw [hq]; simp
                          have Hok := hide (show okV s.data.toList false m p k b n t v 0 from Or.inl ⟨rfl, HE.out, hmm, hin, by rw [← hq, ← hZs]⟩)
                          clear hq hZs
                          obtain ⟨d0, d1, d2, d3, d4, d5, d6, d7⟩ := S8.of H7.out
                          have g0 := frozen_of (i := 0) (H7.out).hw
                          have g1 := frozen_of (i := 1) (H7.out).hw
                          have g2 := frozen_of (i := 2) (H7.out).hw
                          have g3 := frozen_of (i := 3) (H7.out).hw
                          have g4 := frozen_of (i := 4) (H7.out).hw
                          have g5 := frozen_of (i := 5) (H7.out).hw
                          have g6 := frozen_of (i := 6) (H7.out).hw
                          have g7 := frozen_of (i := 7) (H7.out).hw
                          go_wp2_with fail
                          have hz := H7.out.all false (m : Int) p k b n t v
                          exact bodyPost_ret (res_w2 (cs := wc false (m : Int) p k b n t v) rfl hz.hw info29 _ (.int .i64 0) rfl rfl) rfl ⟨false, m, p, k, b, n, t, v, 0, rfl, hz.bel', Hok.out⟩
                        · have hq2 : (Zs.toList == s.toList) = false := by
                            rw [beq_eq_false_iff_ne]; intro h; rw [ByteArray.toList_eq, ByteArray.toList_eq] at h; exact hq (ba_ext h)
                          have Hno := hide (no_end Hr.out (by omega) Hs.out (d := false) (by rw [cs0]; decide) HX.out rfl T3.out (fun h => hq (by rw [← hZs]; apply ba_ext; simpa using h.2)))
                          clear hq hZs
                          obtain ⟨d0, d1, d2, d3, d4, d5, d6, d7⟩ := S8.of H7.out
                          have g0 := frozen_of (i := 0) (H7.out).hw
                          have g1 := frozen_of (i := 1) (H7.out).hw
                          have g2 := frozen_of (i := 2) (H7.out).hw
                          have g3 := frozen_of (i := 3) (H7.out).hw
                          have g4 := frozen_of (i := 4) (H7.out).hw
                          have g5 := frozen_of (i := 5) (H7.out).hw
                          have g6 := frozen_of (i := 6) (H7.out).hw
                          have g7 := frozen_of (i := 7) (H7.out).hw
                          go_wp2_with fail
                          have hz := (H7.out).all false 0 ⟨#[]⟩ 0 false 0 ⟨#[]⟩ 0
                          exact bodyPost_ret (res_w2 (cs := wc false 0 ⟨#[]⟩ 0 false 0 ⟨#[]⟩ 0) rfl hz.hw info29 _ (.int .i64 41) rfl rfl) rfl ⟨false, 0, ⟨#[]⟩, 0, false, 0, ⟨#[]⟩, 0, 41, rfl, hz.bel', okV_none _ Hno.out⟩
                      · have hE2 := ne_bne hE
                        have Hno := hide (no_end Hr.out (by omega) Hs.out (d := false) (by rw [cs0]; decide) HX.out rfl T3.out (fun h => hE h.1))
                        obtain ⟨d0, d1, d2, d3, d4, d5, d6, d7⟩ := S8.of H6.out
                        have g0 := frozen_of (i := 0) (H6.out).hw
                        have g1 := frozen_of (i := 1) (H6.out).hw
                        have g2 := frozen_of (i := 2) (H6.out).hw
                        have g3 := frozen_of (i := 3) (H6.out).hw
                        have g4 := frozen_of (i := 4) (H6.out).hw
                        have g5 := frozen_of (i := 5) (H6.out).hw
                        have g6 := frozen_of (i := 6) (H6.out).hw
                        have g7 := frozen_of (i := 7) (H6.out).hw
                        go_wp2_with fail
                        have hz := (H6.out).all false 0 ⟨#[]⟩ 0 false 0 ⟨#[]⟩ 0
                        exact bodyPost_ret (res_w2 (cs := wc false 0 ⟨#[]⟩ 0 false 0 ⟨#[]⟩ 0) rfl hz.hw info29 _ (.int .i64 41) rfl rfl) rfl ⟨false, 0, ⟨#[]⟩, 0, false, 0, ⟨#[]⟩, 0, 41, rfl, hz.bel', okV_none _ Hno.out⟩
                  · have n2 : (((r[j]).toNat : Int) != 32) = true := by
                      rw [bne_iff_ne]; intro h; exact hc2 (UInt8.toNat_inj.1 (by show _ = 32; omega))
                    have HX := hide (drop_nx hj1 hlt2 hc2 HP.out)
                    go_wp2_with fail
                    go_round
                    case rel => exact ⟨j + 1, by go_num, by omega, by omega, HX⟩
                    case measure => simp [intOf]; omega
                · obtain rfl : j = r.size := by omega
                  have Hno := hide (no_cut Hr.out (cut_two hlt hc HA.out HP.out))
                  obtain ⟨d0, d1, d2, d3, d4, d5, d6, d7⟩ := S8.of H0.out
                  have g0 := frozen_of (i := 0) (H0.out).hw
                  have g1 := frozen_of (i := 1) (H0.out).hw
                  have g2 := frozen_of (i := 2) (H0.out).hw
                  have g3 := frozen_of (i := 3) (H0.out).hw
                  have g4 := frozen_of (i := 4) (H0.out).hw
                  have g5 := frozen_of (i := 5) (H0.out).hw
                  have g6 := frozen_of (i := 6) (H0.out).hw
                  have g7 := frozen_of (i := 7) (H0.out).hw
                  go_wp2_with fail
                  have hz := (H0.out).all false 0 ⟨#[]⟩ 0 false 0 ⟨#[]⟩ 0
                  exact bodyPost_ret (res_w2 (cs := wc false 0 ⟨#[]⟩ 0 false 0 ⟨#[]⟩ 0) rfl hz.hw info29 _ (.int .i64 41) rfl rfl) rfl ⟨false, 0, ⟨#[]⟩, 0, false, 0, ⟨#[]⟩, 0, 41, rfl, hz.bel', okV_none _ Hno.out⟩
            · have n1 : (((r[i]).toNat : Int) != 32) = true := by
                rw [bne_iff_ne]; intro h; exact hc (UInt8.toNat_inj.1 (by show _ = 32; omega))
              have HX := hide (take_nx hlt hc HA.out)
              go_wp2_with fail
              go_round
              case rel => exact ⟨i + 1, by go_num, by omega, HX⟩
              case measure => simp [intOf]; omega
          · obtain rfl : i = r.size := by omega
            have Hno := hide (no_cut Hr.out (cut_one HA.out))
            go_wp2_with fail
            go_loop [6] (fun vi => vi = .int .i64 ((r.size : Int) + 1)) (fun vi => 0)
            case atStart => rfl
            case round =>
              subst hrel
              obtain ⟨d0, d1, d2, d3, d4, d5, d6, d7⟩ := S8.of H0.out
              have g0 := frozen_of (i := 0) (H0.out).hw
              have g1 := frozen_of (i := 1) (H0.out).hw
              have g2 := frozen_of (i := 2) (H0.out).hw
              have g3 := frozen_of (i := 3) (H0.out).hw
              have g4 := frozen_of (i := 4) (H0.out).hw
              have g5 := frozen_of (i := 5) (H0.out).hw
              have g6 := frozen_of (i := 6) (H0.out).hw
              have g7 := frozen_of (i := 7) (H0.out).hw
              go_wp2_with fail
              have hz := (H0.out).all false 0 ⟨#[]⟩ 0 false 0 ⟨#[]⟩ 0
              exact bodyPost_ret (res_w2 (cs := wc false 0 ⟨#[]⟩ 0 false 0 ⟨#[]⟩ 0) rfl hz.hw info29 _ (.int .i64 41) rfl rfl) rfl ⟨false, 0, ⟨#[]⟩, 0, false, 0, ⟨#[]⟩, 0, 41, rfl, hz.bel', okV_none _ Hno.out⟩
      · have m2 : (((s[0]).toNat : Int) != 43) = true := by
          rw [bne_iff_ne]; intro h; exact cs0 (UInt8.toNat_inj.1 (by show _ = 43; omega))
        by_cases cs1 : s[0] = 45
        · have m4 : (((s[0]).toNat : Int) != 45) = false := by rw [cs1]; rfl
          have m3 : (((s[0]).toNat : Int) == 45) = true := by rw [cs1]; rfl
          clear cs0
          go_enter Tryz.func9, Tryz.ntmps9
          go_wp2_with fail
          rw [← Hr.out]
          obtain ⟨W0, hW0⟩ : ∃ W0, w.alloc (.cells #[.bool false, .int .u64 0, .string ⟨#[]⟩, .int .u8 0, .bool false, .int .i64 0, .string ⟨#[]⟩, .int .u64 0] 29) = W0 := ⟨_, rfl⟩
          have H0 : Hid (BW w.heap.size w W0 (wc false 0 ⟨#[]⟩ 0 false 0 ⟨#[]⟩ 0)) := by rw [← hW0]; exact h0
          rw [hW0]
          clear hW0 h0
          generalize w.heap.size = B at *
          go_loop [5] (fun vi => ∃ i : Nat, vi = .int .i64 i ∧ i ≤ r.size ∧ Hid (∀ c ∈ r.data.toList.take i, c ≠ 32)) (fun vi => r.size - (intOf vi).toNat)
          case atStart => exact ⟨0, rfl, Nat.zero_le _, hide (by simp)⟩
          case round =>
            obtain ⟨i, rfl, hi, HA⟩ := hrel
            by_cases hlt : i < r.size
            · by_cases hc : r[i] = 32
              · have n1 : (((r[i]).toNat : Int) != 32) = false := by rw [hc]; rfl
                go_wp2_with fail
                go_loop [6] (fun vi => ∃ j : Nat, vi = .int .i64 j ∧ i + 1 ≤ j ∧ j ≤ r.size ∧ Hid (∀ c ∈ (r.data.toList.drop (i + 1)).take (j - (i + 1)), c ≠ 32)) (fun vi => r.size - (intOf vi).toNat)
                case atStart => exact ⟨i + 1, by go_num, Nat.le_refl _, hlt, hide (by simp)⟩
                case round =>
                  obtain ⟨j, rfl, hj1, hj, HP⟩ := hrel
                  by_cases hlt2 : j < r.size
                  · by_cases hc2 : r[j] = 32
                    · have n2 : (((r[j]).toNat : Int) != 32) = false := by rw [hc2]; rfl
                      have n3 : ¬ (r.size : Int) ≤ (j : Int) := by omega
                      have n4 : (j : Int) + 1 ≤ (r.size : Int) := by omega
                      have Hs := hide (cut_three hlt hc HA.out hj1 hlt2 hc2 HP.out)
                      have hsz3 : (r.extract (j + 1) r.size).size ≤ 150000000000000 := by simp; omega
                      go_wp2_with fail
                      refine (readText_doc (r.extract (j + 1) r.size) hsz3 _).mono ?_
                      rintro e w3 ⟨k, b, n, t, v, ex, rfl, hb3, t3⟩
                      have T3 := hide t3
                      have H3 := hide ((H0.out.next hb3).next ((Bel.refl _).alloc (.cells #[.int .u8 k, .bool b, .int .i64 n, .string t, .int .u64 v] 25)))
                      clear t3 hb3 H0
                      unfold ev
                      go_wp2_with fail
                      obtain ⟨y0, y1, y2, y3, y4⟩ := S5.first k b n t v w3
                      generalize w3.alloc (.cells #[.int .u8 k, .bool b, .int .i64 n, .string t, .int .u64 v] 25) = W4 at *
                      generalize w3.heap.size = Bv at *
                      have hz : Bel W4 (W4.alloc (.cells #[.bool false, .int .u64 0, .string ⟨#[]⟩, .int .u8 0, .bool false, .int .i64 0, .string ⟨#[]⟩, .int .u64 0] 29)).drew := ((Bel.refl W4).alloc _).drew
                      have y0' := hz.cell y0
                      have y1' := hz.cell y1
                      have y2' := hz.cell y2
                      have y3' := hz.cell y3
                      have y4' := hz.cell y4
                      clear hz
                      have n5 : (i : Int) ≤ (r.size : Int) := by omega
                      have n6 : (i : Int) + 1 ≤ (j : Int) := by omega
                      have n7 : (j : Int) ≤ (r.size : Int) := by omega
                      have CU := hide (readUid_doc (r.extract 0 i) (by simp; omega))
                      have HU := hide (fun (W : World) => CU.out W)
                      clear CU
                      have iw : IntKind.i64.wrap ((i : Int) + 1) = (i : Int) + 1 := by rw [IntKind.wrap_i64]; omega
                      have n8 : (0 : Int) ≤ (i : Int) + 1 := by omega
                      have n9 : (0 : Int) ≤ (j : Int) := by omega
                      have n10 : (0 : Int) ≤ (i : Int) := by omega
                      have n11 : i + 1 ≤ j := hj1
                      have n12 : j ≤ r.size := by omega
                      have z4 := World.new_ne W4 _ y0
                      simp only at z4
                      clear y0' y1' y2' y3' y4'
                      have hh : W4.drew.cell? ⟨Bv, 0, none⟩ = some (.int .u8 k) ∧ W4.drew.cell? ⟨Bv, 1, none⟩ = some (.bool b) ∧ W4.drew.cell? ⟨Bv, 2, none⟩ = some (.int .i64 n) ∧ W4.drew.cell? ⟨Bv, 3, none⟩ = some (.string t) ∧ W4.drew.cell? ⟨Bv, 4, none⟩ = some (.int .u64 v) := ⟨y0, y1, y2, y3, y4⟩
                      go_region_held3 (fun W => W.cell? ⟨Bv, 0, none⟩ = some (.int .u8 k) ∧ W.cell? ⟨Bv, 1, none⟩ = some (.bool b) ∧ W.cell? ⟨Bv, 2, none⟩ = some (.int .i64 n) ∧ W.cell? ⟨Bv, 3, none⟩ = some (.string t) ∧ W.cell? ⟨Bv, 4, none⟩ = some (.int .u64 v)) (first | assumption | go_keep) ((go_at_call 38; refine (HU.out _).mono ?_; rintro e w' ⟨x, rfl, rfl, hx⟩))
                      all_goals
                        obtain ⟨m, hm2⟩ : ∃ m : Nat, x = (m : Int) := ⟨x.toNat, by have := hx.1; omega⟩
                        subst hm2
                        have HX := hide hx
                        have hv0 : 0 ≤ v := okD_pos T3.out
                        have h5 := hide (S8.new true (m : Int) (r.extract (i + 1) j) k b n t v W4).drew
                        have H5 := hide (H3.out.next ((Bel.refl W4).alloc (.cells #[.bool true, .int .u64 (m : Int), .string (r.extract (i + 1) j), .int .u8 k, .bool b, .int .i64 n, .string t, .int .u64 v] 29)).drew)
                        clear hh hx H3 y0 y1 y2 y3 y4 z4 HU
                        rename_i hHeld
                        clear hHeld
                        generalize (W4.alloc (.cells #[.bool true, .int .u64 (m : Int), .string (r.extract (i + 1) j), .int .u8 k, .bool b, .int .i64 n, .string t, .int .u64 v] 29)).drew = W5 at *
                        generalize W4.heap.size = Bw at *
                        obtain ⟨p, hpx⟩ : ∃ p, r.extract (i + 1) j = p := ⟨_, rfl⟩
                        rw [hpx] at h5 Hs ⊢
                        obtain ⟨c0, c1, c2, c3, c4, c5, c6, c7⟩ := h5.out
                        clear n2 n3 n4 n5 n6 n7 n8 n9 n10 n11 n12 iw n1 hpx
                        go_wp2_with fail
                        refine (refMay_any (m : Int) p k b n t v (by omega) hv0 _).mono ?_
                        rintro e w6 ⟨rfl, hb6⟩
                        have h6 := h5.out.next hb6
                        have H6 := hide (H5.out.next hb6)
                        clear c0 c1 c2 c3 c4 c5 c6 c7 h5 H5 hb6
                        have H6s := hide h6
                        obtain ⟨c0, c1, c2, c3, c4, c5, c6, c7⟩ := h6
                        by_cases hE : eT (m : Int) p k b n t v = 0
                        · have hE2 : (eT (m : Int) p k b n t v != 0) = false := by rw [hE]; rfl
                          have hin : inR n v := okD_in T3.out (eT_zero hE).2.2
                          have hmm : m < 18446744073709551616 := by have := HX.out.2.1; omega
                          have CT := hide (refWtext true m hmm p k b n t v hin.1 hin.2.1 hin.2.2.1 hin.2.2.2 hE)
                          obtain ⟨Zs, hZs⟩ : ∃ Zs : ByteArray, (⟨(wtx true (m : Int) p k b n t v).toArray⟩ : ByteArray) = Zs := ⟨_, rfl⟩
                          rw [hZs] at CT
                          unfold wr at CT
                          have HE := hide hE
                          clear hE
                          go_wp2_with fail
                          refine (CT.out _).mono ?_
                          rintro e w7 ⟨rfl, hb7⟩
                          have h7 := H6s.out.next hb7
                          have H7 := hide (H6.out.next hb7)
                          clear c0 c1 c2 c3 c4 c5 c6 c7 hb7 H6 H6s CT
                          obtain ⟨c0, c1, c2, c3, c4, c5, c6, c7⟩ := h7
                          by_cases hq : Zs = s
                          · have hq2 : (Zs.toList == s.toList) = true := by rw [hq]; simp
                            have Hok := hide (show okV s.data.toList true m p k b n t v 0 from Or.inl ⟨rfl, HE.out, hmm, hin, by rw [← hq, ← hZs]⟩)
                            clear hq hZs
                            obtain ⟨d0, d1, d2, d3, d4, d5, d6, d7⟩ := S8.of H7.out
                            have g0 := frozen_of (i := 0) (H7.out).hw
                            have g1 := frozen_of (i := 1) (H7.out).hw
                            have g2 := frozen_of (i := 2) (H7.out).hw
                            have g3 := frozen_of (i := 3) (H7.out).hw
                            have g4 := frozen_of (i := 4) (H7.out).hw
                            have g5 := frozen_of (i := 5) (H7.out).hw
                            have g6 := frozen_of (i := 6) (H7.out).hw
                            have g7 := frozen_of (i := 7) (H7.out).hw
                            go_wp2_with fail
                            have hz := H7.out.all true (m : Int) p k b n t v
                            exact bodyPost_ret (res_w2 (cs := wc true (m : Int) p k b n t v) rfl hz.hw info29 _ (.int .i64 0) rfl rfl) rfl ⟨true, m, p, k, b, n, t, v, 0, rfl, hz.bel', Hok.out⟩
                          · have hq2 : (Zs.toList == s.toList) = false := by
                              rw [beq_eq_false_iff_ne]; intro h; rw [ByteArray.toList_eq, ByteArray.toList_eq] at h; exact hq (ba_ext h)
                            have Hno := hide (no_end Hr.out (by omega) Hs.out (d := true) (by rw [cs1]; decide) HX.out rfl T3.out (fun h => hq (by rw [← hZs]; apply ba_ext; simpa using h.2)))
                            clear hq hZs
                            obtain ⟨d0, d1, d2, d3, d4, d5, d6, d7⟩ := S8.of H7.out
                            have g0 := frozen_of (i := 0) (H7.out).hw
                            have g1 := frozen_of (i := 1) (H7.out).hw
                            have g2 := frozen_of (i := 2) (H7.out).hw
                            have g3 := frozen_of (i := 3) (H7.out).hw
                            have g4 := frozen_of (i := 4) (H7.out).hw
                            have g5 := frozen_of (i := 5) (H7.out).hw
                            have g6 := frozen_of (i := 6) (H7.out).hw
                            have g7 := frozen_of (i := 7) (H7.out).hw
                            go_wp2_with fail
                            have hz := (H7.out).all false 0 ⟨#[]⟩ 0 false 0 ⟨#[]⟩ 0
                            exact bodyPost_ret (res_w2 (cs := wc false 0 ⟨#[]⟩ 0 false 0 ⟨#[]⟩ 0) rfl hz.hw info29 _ (.int .i64 41) rfl rfl) rfl ⟨false, 0, ⟨#[]⟩, 0, false, 0, ⟨#[]⟩, 0, 41, rfl, hz.bel', okV_none _ Hno.out⟩
                        · have hE2 := ne_bne hE
                          have Hno := hide (no_end Hr.out (by omega) Hs.out (d := true) (by rw [cs1]; decide) HX.out rfl T3.out (fun h => hE h.1))
                          obtain ⟨d0, d1, d2, d3, d4, d5, d6, d7⟩ := S8.of H6.out
                          have g0 := frozen_of (i := 0) (H6.out).hw
                          have g1 := frozen_of (i := 1) (H6.out).hw
                          have g2 := frozen_of (i := 2) (H6.out).hw
                          have g3 := frozen_of (i := 3) (H6.out).hw
                          have g4 := frozen_of (i := 4) (H6.out).hw
                          have g5 := frozen_of (i := 5) (H6.out).hw
                          have g6 := frozen_of (i := 6) (H6.out).hw
                          have g7 := frozen_of (i := 7) (H6.out).hw
                          go_wp2_with fail
                          have hz := (H6.out).all false 0 ⟨#[]⟩ 0 false 0 ⟨#[]⟩ 0
                          exact bodyPost_ret (res_w2 (cs := wc false 0 ⟨#[]⟩ 0 false 0 ⟨#[]⟩ 0) rfl hz.hw info29 _ (.int .i64 41) rfl rfl) rfl ⟨false, 0, ⟨#[]⟩, 0, false, 0, ⟨#[]⟩, 0, 41, rfl, hz.bel', okV_none _ Hno.out⟩
                    · have n2 : (((r[j]).toNat : Int) != 32) = true := by
                        rw [bne_iff_ne]; intro h; exact hc2 (UInt8.toNat_inj.1 (by show _ = 32; omega))
                      have HX := hide (drop_nx hj1 hlt2 hc2 HP.out)
                      go_wp2_with fail
                      go_round
                      case rel => exact ⟨j + 1, by go_num, by omega, by omega, HX⟩
                      case measure => simp [intOf]; omega
                  · obtain rfl : j = r.size := by omega
                    have Hno := hide (no_cut Hr.out (cut_two hlt hc HA.out HP.out))
                    obtain ⟨d0, d1, d2, d3, d4, d5, d6, d7⟩ := S8.of H0.out
                    have g0 := frozen_of (i := 0) (H0.out).hw
                    have g1 := frozen_of (i := 1) (H0.out).hw
                    have g2 := frozen_of (i := 2) (H0.out).hw
                    have g3 := frozen_of (i := 3) (H0.out).hw
                    have g4 := frozen_of (i := 4) (H0.out).hw
                    have g5 := frozen_of (i := 5) (H0.out).hw
                    have g6 := frozen_of (i := 6) (H0.out).hw
                    have g7 := frozen_of (i := 7) (H0.out).hw
                    go_wp2_with fail
                    have hz := (H0.out).all false 0 ⟨#[]⟩ 0 false 0 ⟨#[]⟩ 0
                    exact bodyPost_ret (res_w2 (cs := wc false 0 ⟨#[]⟩ 0 false 0 ⟨#[]⟩ 0) rfl hz.hw info29 _ (.int .i64 41) rfl rfl) rfl ⟨false, 0, ⟨#[]⟩, 0, false, 0, ⟨#[]⟩, 0, 41, rfl, hz.bel', okV_none _ Hno.out⟩
              · have n1 : (((r[i]).toNat : Int) != 32) = true := by
                  rw [bne_iff_ne]; intro h; exact hc (UInt8.toNat_inj.1 (by show _ = 32; omega))
                have HX := hide (take_nx hlt hc HA.out)
                go_wp2_with fail
                go_round
                case rel => exact ⟨i + 1, by go_num, by omega, HX⟩
                case measure => simp [intOf]; omega
            · obtain rfl : i = r.size := by omega
              have Hno := hide (no_cut Hr.out (cut_one HA.out))
              go_wp2_with fail
              go_loop [6] (fun vi => vi = .int .i64 ((r.size : Int) + 1)) (fun vi => 0)
              case atStart => rfl
              case round =>
                subst hrel
                obtain ⟨d0, d1, d2, d3, d4, d5, d6, d7⟩ := S8.of H0.out
                have g0 := frozen_of (i := 0) (H0.out).hw
                have g1 := frozen_of (i := 1) (H0.out).hw
                have g2 := frozen_of (i := 2) (H0.out).hw
                have g3 := frozen_of (i := 3) (H0.out).hw
                have g4 := frozen_of (i := 4) (H0.out).hw
                have g5 := frozen_of (i := 5) (H0.out).hw
                have g6 := frozen_of (i := 6) (H0.out).hw
                have g7 := frozen_of (i := 7) (H0.out).hw
                go_wp2_with fail
                have hz := (H0.out).all false 0 ⟨#[]⟩ 0 false 0 ⟨#[]⟩ 0
                exact bodyPost_ret (res_w2 (cs := wc false 0 ⟨#[]⟩ 0 false 0 ⟨#[]⟩ 0) rfl hz.hw info29 _ (.int .i64 41) rfl rfl) rfl ⟨false, 0, ⟨#[]⟩, 0, false, 0, ⟨#[]⟩, 0, 41, rfl, hz.bel', okV_none _ Hno.out⟩
        · have m4 : (((s[0]).toNat : Int) != 45) = true := by
            rw [bne_iff_ne]; intro h; exact cs1 (UInt8.toNat_inj.1 (by show _ = 45; omega))
          have Hno := hide (no_head (Or.inr ⟨hp, Or.inr ⟨cs0, cs1⟩⟩))
          go_enter Tryz.func9, Tryz.ntmps9
          go_wp2_with fail
          exact bodyPost_ret (res_w2 (cs := wc false 0 ⟨#[]⟩ 0 false 0 ⟨#[]⟩ 0) rfl h0.out.hw info29 _ (.int .i64 41) rfl rfl) rfl ⟨false, 0, ⟨#[]⟩, 0, false, 0, ⟨#[]⟩, 0, 41, rfl, h0.out.bel', okV_none _ Hno.out⟩
    · have m1 : (((s[1]).toNat : Int) != 32) = true := by
        rw [bne_iff_ne]; intro h; exact c1 (UInt8.toNat_inj.1 (by show _ = 32; omega))
      have Hno := hide (no_head (Or.inr ⟨hp, Or.inl c1⟩))
      go_enter Tryz.func9, Tryz.ntmps9
      go_wp2_with fail
      exact bodyPost_ret (res_w2 (cs := wc false 0 ⟨#[]⟩ 0 false 0 ⟨#[]⟩ 0) rfl h0.out.hw info29 _ (.int .i64 41) rfl rfl) rfl ⟨false, 0, ⟨#[]⟩, 0, false, 0, ⟨#[]⟩, 0, 41, rfl, h0.out.bel', okV_none _ Hno.out⟩
end Go.Proofs.YtgghcfmpfneehaaGreatDoor
