/- The numbers of a wal's files. -/
import Derived.Test.YtgimciacapfbfaaGreatDoorOpe
import Derived.Lib.AtoiErrMem
namespace Go.Proofs.YtgimciacapfbfaaGreatDoor
open Go.RowKit Go.Maps Go.WideMaps Go.Sort
theorem dec_app : ∀ (l k : List UInt8) (a : Nat), Lib.decFrom a (l ++ k) = (Lib.decFrom a l).bind (fun m => Lib.decFrom m k)
  | [], _, _ => rfl
  | b :: l, k, a => by
    show (match Lib.digitVal b with | some d => Lib.decFrom (a * 10 + d) (l ++ k) | none => none) = Option.bind (match Lib.digitVal b with | some d => Lib.decFrom (a * 10 + d) l | none => none) _
    cases Lib.digitVal b with
    | none => rfl
    | some d => exact dec_app l k _
theorem dig_val : ∀ r, r < 10 → Lib.digitVal (UInt8.ofNat (48 + r)) = some r := by decide
theorem dig_no : ∀ r, r < 10 → (UInt8.ofNat (48 + r) == 45) = false ∧ (UInt8.ofNat (48 + r) == 43) = false := by decide
theorem own_since {w : World} {v : Value} {n b b' : Nat} {e : TypeId} {size : Nat} {cs : List Value} (h : w.ownsRow b e size v n cs) (hb : b' ≤ b) : w.ownsRow b' e size v n cs := by
  refine ⟨h.1, ?_⟩
  rcases h.2 with h' | ⟨g, cap, cur, rfl, h1, h2⟩
  · exact Or.inl h'
  · exact Or.inr ⟨g, cap, cur, rfl, Nat.le_trans hb h1, h2⟩
theorem dec_pad : ∀ (k n a : Nat), n < 10 ^ k → Lib.decFrom a (pad k n) = some (a * 10 ^ k + n)
  | 0, n, a, h => by simp at h; subst h; simp [pad, Lib.decFrom]
  | k + 1, n, a, h => by
    have h10 : n / 10 < 10 ^ k := by rw [Nat.pow_succ] at h; exact Nat.div_lt_of_lt_mul (by omega)
    rw [pad, dec_app, dec_pad k (n / 10) a h10]
    show Lib.decFrom (a * 10 ^ k + n / 10) [UInt8.ofNat (48 + n % 10)] = _
    unfold Lib.decFrom
    rw [dig_val (n % 10) (Nat.mod_lt _ (by omega))]
    show Lib.decFrom _ [] = _
    unfold Lib.decFrom
    congr 1
    rw [Nat.pow_succ, ← Nat.mul_assoc, Nat.add_mul]
    omega
theorem pad_head : ∀ (k n : Nat), ∃ d r, d < 10 ∧ pad (k + 1) n = UInt8.ofNat (48 + d) :: r
  | 0, n => ⟨n % 10, [], Nat.mod_lt _ (by omega), rfl⟩
  | k + 1, n => by
    obtain ⟨d, r, h1, h2⟩ := pad_head k (n / 10)
    exact ⟨d, r ++ [UInt8.ofNat (48 + n % 10)], h1, by rw [pad, h2]; rfl⟩
theorem atoi_pad (n : Nat) (h : n ≤ 999999999999) : Lib.atoi (pad 12 n) = some (n : Int) := by
  have hd := dec_pad 12 n 0 (by omega)
  obtain ⟨d, r, h1, h2⟩ := pad_head 11 n
  rw [h2] at hd ⊢
  simp only [Lib.atoi, (dig_no d h1).1, (dig_no d h1).2, Lib.decNat]
  rw [if_neg (by simp), if_neg (by simp), if_neg (by simp), hd]
  simp
theorem trim_pth (nm : List UInt8) (n : Nat) : Lib.trimPrefix (pth nm n) (nm ++ [47]) = pad 12 n := by
  unfold Lib.trimPrefix Lib.hasPrefix pth
  rw [if_pos (by rw [List.isPrefixOf_iff_prefix]; exact ⟨pad 12 n, by simp⟩), show nm ++ 47 :: pad 12 n = (nm ++ [47]) ++ pad 12 n by simp, List.drop_left' rfl]
theorem trim_b (nm : List UInt8) (n : Nat) (W : World) : Calls Tryz.prog 63 #[.string ⟨(pth nm n).toArray⟩, .string (⟨nm.toArray⟩ ++ ⟨#[47]⟩)] W fun e w' => e = .returned (.string ⟨(pad 12 n).toArray⟩) ∧ w' = W := by
  have h := Tryz.strings_TrimPrefix ⟨(pth nm n).toArray⟩ (⟨nm.toArray⟩ ++ ⟨#[47]⟩) W
  rw [show Lib.trimPrefix ((⟨(pth nm n).toArray⟩ : ByteArray).data.toList) ((⟨nm.toArray⟩ ++ ⟨#[47]⟩ : ByteArray).data.toList) = pad 12 n by
    rw [ByteArray.data_append, Array.toList_append]
    exact trim_pth nm n] at h
  exact h
theorem Tryz.i3 : ∃ i, Tryz.prog.info? 3 = some i ∧ i.zero = some (.int .i64 0) ∧ i.size = 1 ∧ i.bytes = 8 := by
  have h : (Tryz.prog.info? 3).map (fun i => (i.zero, i.size, i.bytes)) = some (some (.int .i64 0), 1, 8) := by kernel_rfl
  cases hi : Tryz.prog.info? 3 with
  | none => rw [hi] at h; cases h
  | some i => rw [hi] at h; exact ⟨i, rfl, by simpa using h⟩
/-- Numbers' cells. -/
def ncs (ns : List Nat) : List Value := ns.map fun (n : Nat) => .int .i64 (n : Int)
set_option maxRecDepth 100000 in
set_option maxHeartbeats 4000000 in
theorem numbers_any {w0 W : World} {C : Nat} {G : Nat → Prop} {q p : Nat} {x : PW} {d : PD} (h : Wa w0 C G W q p x d) (hg : Gl w0) (hn : x.nm.length ≤ 64) (ns : List Nat) (hs : nms d.seen = ns.map (pth x.nm)) (h1 : ∀ n ∈ ns, 1 ≤ n ∧ n ≤ 999999999999) (hl : ns.length ≤ 4096) :
    Calls Tryz.prog 46 #[.pointer (some ⟨q, 0, none⟩)] W fun e w' => ∃ v, e = .returned v ∧ w'.ownsRow W.heap.size 3 1 v ns.length (ncs ns) ∧ Bel W w' := by
  obtain ⟨v, M, B, k1, k2, k3⟩ := h.ex
  have h61 := hide (names_any k2)
  rw [hs, List.length_map] at h61
  have e0 : W.cell? ⟨q, 0, none⟩ = some (.pointer (some ⟨p, 0, none⟩)) := cell_of k1.row
  have HR := hide k1.row
  have H := hide h
  have HG := hide hg
  have H1 := hide h1
  obtain ⟨i0, hi0, hz0, hz1, hz2⟩ := Tryz.i3
  clear h k1 k2 k3 hg h1 hs
  go_enter Tryz.func46, Tryz.ntmps46
  go_wp2_with (go_at_call 61; refine (unhide h61).mono ?_; rintro e w1 ⟨⟨g, cap, rfl, hown⟩, hb1⟩)
  have HB1 := hide hb1
  have HOWN := hide hown
  clear hown e0
  go_loopw [3, 5, 6, 7, 14] (fun vo _ _ _ vi wr => ∃ k : Nat, k ≤ ns.length ∧ vi = .int .i64 k ∧ Hid (wr.ownsRow w1.heap.size 3 1 vo k (ncs (ns.take k)) ∧ Bel w1 wr)) (fun _ _ _ _ vi _ => ns.length - (intOf vi).toNat)
  case atStart => exact ⟨0, Nat.zero_le _, rfl, by rw [List.take_zero]; exact World.ownsRow_nil _ _ _ _, Bel.refl _⟩
  case round =>
    obtain ⟨k, hk, rfl, HO⟩ := hrel
    by_cases hlt : k < ns.length
    · have hki : (k : Int) < (ns.length : Int) := by omega
      obtain ⟨o1, hbw⟩ := unhide HO
      have hgl : g < w1.heap.size := ((unhide HOWN).lt g rfl).2
      have x0 : wr.cell? ⟨g, k, none⟩ = some (.string ⟨(pth x.nm ns[k]).toArray⟩) := by
        rw [hbw.cell (p := ⟨g, k, none⟩) hgl, (unhide HOWN).cellAt k (by omega)]
        simp [hlt]
      have hb0 := hide ((unhide HB1).trans hbw)
      have x1 : wr.cell? ⟨q, 1, none⟩ = some (.string ⟨x.nm.toArray⟩) := cell_of ((unhide hb0).row (unhide HR))
      have hnk := (unhide H1) ns[k] (List.getElem_mem hlt)
      have hns : Hid (ncs (ns.take (k + 1)) = ncs (ns.take k) ++ [.int .i64 (ns[k] : Int)]) := by
        show ncs _ = _
        rw [take_one ns k hlt, ncs, List.map_append]; rfl
      obtain ⟨a, c, rfl, _⟩ := own_shape (own_since (unhide HO).1 (Nat.zero_le _))
      generalize ns[k] = n at x0 hnk hns
      have h63 := hide (fun W => trim_b x.nm n W)
      have h62 := hide (fun W => Tryz.strconv_Atoi ⟨(pad 12 n).toArray⟩ n (by show (pad 12 n).toArray.size ≤ 18; simp [pad_len]) (atoi_pad n hnk.2) W)
      have h37 := hide (fun W (hb : Bel wr W) => path_any (hb.row ((unhide hb0).row (unhide HR))) ((unhide HG).next ((unhide H).bel.trans ((unhide hb0).trans hb))) hn n hnk.2)
      unfold vS at h37
      have hq : (0 : Int) < (n : Int) := by omega
      have hq2 : (n : Int) ≤ 999999999999 := by omega
      have happ := app_str x.nm [47]
      clear o1
      go_wp2_with (first
        | (go_at_call 63; refine ((unhide h63) _).mono ?_; rintro e w2 ⟨rfl, hw2⟩; rw [hw2]; clear hw2)
        | (go_at_call 62; refine ((unhide h62) _).mono ?_; rintro e w2 ⟨rfl, t, hw2⟩; have hbx : Bel wr w2 := (by rw [hw2]; exact Lib.bytesWorld_below _ _ _); clear hw2)
        | (go_at_call 37; refine ((unhide h37) _ hbx).mono ?_; rintro e w3 ⟨rfl, hb3⟩; have hbw3 := hide (hbx.trans hb3))
        | (at_builtin; refine wpList_append_own _ rfl _ _ 82 rfl w1.heap.size 3 i0 (.int .i64 0) 1 8 Tryz.underlying82 hi0 hz0 hz1 hz2 rfl (by decide) (.slice a k c) k (ncs (ns.take k)) rfl ((row_at (unhide HO).1 (fun j hj => (unhide hbw3).block j ((unhide HO).1.lt j hj).2)).alloc _) ⟨w3.heap.size, 0, none⟩ 1 1 [.int .i64 (n : Int)] rfl rfl (World.news_of_block (at_new w3 _)) (by simp [Value.oneCell']) (by unfold maxLen; omega) (by omega) (by have := hbw.size; have := (unhide hbw3).size; simp; omega) ?_; intro v' w4 hown' hg4 hnil4; go_frame))
      have hb4 : Bel w1 w4 := Below.grown ((hbw.trans (unhide hbw3)).alloc _) hg4 (by have := hbw.size; have := (unhide hbw3).size; simp; omega) (fun j hj => ((unhide HO).1.lt j hj).1)
      go_roundw
      case rel => exact ⟨k + 1, by omega, by go_num, by rw [unhide hns]; exact hown', hb4⟩
      case measure => simp [intOf]; omega
    · have hki : ¬ (k : Int) < (ns.length : Int) := by omega
      have hkn : Hid (k = ns.length) := hide (by omega)
      go_wp2_with fail
      go_ret
      obtain ⟨o1, hbw⟩ := unhide HO
      rw [unhide hkn, List.take_length] at o1
      exact ⟨_, rfl, own_since o1 (unhide HB1).size, (unhide HB1).trans hbw⟩
end Go.Proofs.YtgimciacapfbfaaGreatDoor
