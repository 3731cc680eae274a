/- Numbers and entries as bytes, as the document has them. An entry as bytes, as the document has it. -/
import Derived.Test.YtgofdkheffoilaaGreatRme
namespace Go.Proofs.YtgofdkheffoilaaGreat
open Go.RowKit Go.Maps
theorem refText_any (s : ByteArray) (hs : s.size ≤ 150000000000000) (w : World) :
    Calls Tryz.prog 43 #[.string s] w fun e w' => e = .returned (.string (ctx s)) ∧ Bel w w' := by
  have hq : ¬ (9223372036854775807 < (num s.size).length + s.size) := by have := num_len s.size (by omega); omega
  have hw : IntKind.u64.wrap (s.size : Int) = (s.size : Int) := by rw [IntKind.wrap_u64]; omega
  go_enter Tryz.func43, Tryz.ntmps43
  go_wp2_with fail
  refine (refNum_any s.size (by omega) _).mono ?_
  rintro e w' ⟨rfl, hb⟩
  go_wp2_with fail
  go_ret
  exact ⟨rfl, hb⟩
theorem flat_idb (q : List Int) (h : ∀ x ∈ q, 0 ≤ x ∧ x < 9223372036854775808) : (q.flatMap (fun x => num x.toNat)).length ≤ 9 * q.length := by
  induction q with
  | nil => simp
  | cons x q ih =>
    have h5 := ih (fun y hy => h y (List.mem_cons_of_mem _ hy))
    have h6 := num_len x.toNat (by have := h x List.mem_cons_self; omega)
    simp only [List.flatMap_cons, List.length_append, List.length_cons]
    omega
theorem ba_of (l k : List UInt8) : (⟨l.toArray⟩ : ByteArray) ++ ⟨k.toArray⟩ = ⟨(l ++ k).toArray⟩ := ba_ext (by rw [ba_app])
set_option maxRecDepth 100000 in
set_option maxHeartbeats 1000000 in
theorem numbers_any {W : World} {a : Option Addr} {l : List Int} (h : Sl E3 W a l) (cap : Nat) (hx : ∀ x ∈ l, 0 ≤ x ∧ x < 9223372036854775808) (hl : l.length ≤ 1048576) : Calls Tryz.prog 42 #[.slice a l.length cap] W fun e w' => e = .returned (.string ⟨(idb l).toArray⟩) ∧ Bel W w' := by
  obtain ⟨g, off, hg, hR⟩ := h
  have HN := hide (fun (k : Nat) (hk : Hid (k < 2 ^ 64)) W' => refNum_any k hk W')
  have HNL : Hid (∀ k : Nat, k < 2 ^ 64 → (num k).length ≤ 9) := hide (fun k hk => num_len k hk)
  have HX := hide hx
  generalize hn : l.length = n at *
  have HLN := hide hn
  have HG := hide hg
  have HR := hide hR
  have hwn : IntKind.u64.wrap (n : Int) = (n : Int) := by rw [IntKind.wrap_u64]; omega
  have HNn : Hid (n < 2 ^ 64) := hide (by omega)
  clear hg hR hx hn
  go_enter Tryz.func42, Tryz.ntmps42
  go_wp2_with (first
    | (go_at_call 40; refine ((unhide HN) _ (by assumption) _).mono ?_; rintro e w1 ⟨rfl, hb1⟩; have HB := hide hb1; clear hb1))
  go_loopw [3, 4] (fun v3 vk wr => ∃ (k : Nat) (S : List UInt8), k ≤ n ∧ vk = .int .i64 k ∧ v3 = .string ⟨S.toArray⟩ ∧ Hid (S = num n ++ (l.take k).flatMap (fun x => num x.toNat)) ∧ Hid (Bel W wr)) (fun _ vk _ => n - (intOf vk).toNat)
  case atStart => exact ⟨0, num n, Nat.zero_le _, rfl, rfl, hide (by simp), HB⟩
  case round =>
    obtain ⟨k, S, hk, rfl, rfl, HS, HK⟩ := hrel
    by_cases hlt : k < n
    · have hkl : k < l.length := by rw [unhide HLN]; exact hlt
      obtain rfl := (unhide HG) (by omega)
      have hkn : (k : Int) < n := by omega
      have r0 := (unhide HK).cell (E3_cell (unhide HR) k hkl)
      have hxk := (unhide HX) _ (List.getElem_mem hkl)
      have hlen : S.length ≤ 9 + 9 * n := by
        have h2 := (unhide HNL) n (unhide HNn)
        have h4 := flat_idb (l.take k) (fun x hx => (unhide HX) x (List.mem_of_mem_take hx))
        rw [unhide HS, List.length_append]
        rw [List.length_take] at h4
        omega
      have HT : Hid (l.take (k + 1) = l.take k ++ [l[k]]) := hide (by rw [List.take_add_one, List.getElem?_eq_getElem hkl]; rfl)
      generalize l[k] = y at *
      obtain ⟨z, rfl⟩ : ∃ z : Nat, y = (z : Int) := ⟨y.toNat, by omega⟩
      have hwz : IntKind.u64.wrap (z : Int) = (z : Int) := by rw [IntKind.wrap_u64]; omega
      have HZz : Hid (z < 2 ^ 64) := hide (by omega)
      have hq : ¬ (9223372036854775807 < S.length + (num z).length) := by have := (unhide HNL) z (unhide HZz); omega
      clear hxk hlen
      go_wp2_with (first
        | (go_at_call 40; refine ((unhide HN) _ (by assumption) _).mono ?_; rintro e w1 ⟨rfl, hb1⟩; replace HK := hide ((unhide HK).trans hb1); clear hb1))
      go_roundw
      case rel => exact ⟨k + 1, S ++ num z, by omega, by go_num, by rw [ba_of], hide (by rw [unhide HT, unhide HS]; simp), HK⟩
      case measure => simp [intOf]; omega
    · obtain rfl : k = n := by omega
      go_wp2_with fail
      go_ret
      refine ⟨?_, unhide HK⟩
      rw [unhide HS, List.take_of_length_le (by rw [unhide HLN]; omega)]
      unfold idb
      rw [unhide HLN]
      rfl
end Go.Proofs.YtgofdkheffoilaaGreat
namespace Go.Proofs.YtgofdkheffoilaaGreat
open Go.RowKit Go.Maps
set_option maxRecDepth 100000 in
set_option maxRecDepth 100000 in
set_option maxHeartbeats 2000000 in
theorem refEnt_any {W : World} (x : GE × GA) (h : Sl E3 W x.2.a x.1.m) (hx : ∀ y ∈ x.1.m, 0 ≤ y ∧ y < 9223372036854775808) (hl : x.1.m.length ≤ 1048576) (hd : x.1.d.size ≤ 1000000000) (t k : Nat) (ht : x.1.t = t) (hk : x.1.k = k) (ht2 : t < 2 ^ 64) (hk2 : k < 256) : Calls Tryz.prog 41 #[.agg (encG x).toArray] W fun e w' => e = .returned (.string (entb x.1)) ∧ Bel W w' := by
  have HI : Hid (∀ W', Bel W W' → Calls Tryz.prog 42 #[.slice x.2.a x.1.m.length x.2.c] W' fun e w' => e = .returned (.string ⟨(idb x.1.m).toArray⟩) ∧ Bel W' w') := hide (fun W' hb => numbers_any (h.bel hb) x.2.c hx hl)
  have HN : Hid (∀ W', Calls Tryz.prog 40 #[.int .u64 (t : Int)] W' fun e w' => e = .returned (.string ⟨(num t).toArray⟩) ∧ Bel W' w') := hide (fun W' => refNum_any t ht2 W')
  have HT : Hid (∀ W', Calls Tryz.prog 43 #[.string x.1.d] W' fun e w' => e = .returned (.string (ctx x.1.d)) ∧ Bel W' w') := hide (fun W' => refText_any x.1.d (by omega) W')
  have q1 := num_len t ht2
  have q2 := idb_len x.1.m hx (by omega)
  have q3 : (ctx x.1.d).size ≤ 9 + x.1.d.size := by
    unfold ctx
    rw [ByteArray.size_append, show (⟨(num x.1.d.size).toArray⟩ : ByteArray).size = (num x.1.d.size).length from List.size_toArray]
    have := num_len x.1.d.size (by omega)
    omega
  have HE : Hid (entb x.1 = ((⟨(num t).toArray⟩ ++ ⟨#[UInt8.ofNat k]⟩) ++ ctx x.1.d) ++ ⟨(idb x.1.m).toArray⟩) := hide (by unfold entb; rw [ht, hk]; rfl)
  obtain ⟨⟨t', k', d, m⟩, ax, cx⟩ := x
  simp only at ht hk HI HT q2 q3 HE hd hl ⊢
  subst ht hk
  unfold encG
  simp only
  generalize idb m = I at *
  generalize num t = N at *
  generalize ctx d = T at *
  rw [unhide HE]
  have z1 : ¬ (9223372036854775807 < N.length + 1) := by omega
  have z2 : ¬ (9223372036854775807 < N.length + 1 + T.size) := by omega
  have z3 : ¬ (9223372036854775807 < N.length + 1 + T.size + I.length) := by omega
  clear h hx q1 q2 q3 HE
  go_enter Tryz.func41, Tryz.ntmps41
  go_wp2_with fail
  rename_i QQ KK hKK
  have hrow := at_new W (.cells #[.int .u64 (t : Int), .int .u8 (k : Int), .string d, .slice ax m.length cx] 72)
  have hbel : Bel W (W.alloc (.cells #[.int .u64 (t : Int), .int .u8 (k : Int), .string d, .slice ax m.length cx] 72)) := (Bel.refl W).alloc _
  generalize W.alloc (.cells #[.int .u64 (t : Int), .int .u8 (k : Int), .string d, .slice ax m.length cx] 72) = w0 at *
  generalize W.heap.size = b at *
  refine rg_mn (fun i v w => match i with
    | 0 => v = .pointer (some ⟨b, 0, none⟩)
    | 1 => v = .int .u64 (t : Int)
    | 2 => v = .string ⟨N.toArray⟩
    | 3 => v = .pointer (some ⟨b, 1, none⟩)
    | 4 => v = .int .u8 (k : Int)
    | 5 => ∃ g, v = .slice (some ⟨g, 0, none⟩) 1 1 ∧ w.heap[g]? = some (.cells #[.int .u8 (k : Int)] 5)
    | 6 => v = .string ⟨#[UInt8.ofNat k]⟩
    | 7 => v = .string (⟨N.toArray⟩ ++ ⟨#[UInt8.ofNat k]⟩)
    | 8 => v = .pointer (some ⟨b, 2, none⟩)
    | 9 => v = .string d
    | 10 => v = .string T
    | 11 => v = .string ((⟨N.toArray⟩ ++ ⟨#[UInt8.ofNat k]⟩) ++ T)
    | 12 => v = .pointer (some ⟨b, 3, none⟩)
    | 13 => v = .slice ax m.length cx
    | 14 => v = .string ⟨I.toArray⟩
    | 15 => v = .string (((⟨N.toArray⟩ ++ ⟨#[UInt8.ofNat k]⟩) ++ T) ++ ⟨I.toArray⟩)
    | 16 => v = .string (((⟨N.toArray⟩ ++ ⟨#[UInt8.ofNat k]⟩) ++ T) ++ ⟨I.toArray⟩)
    | _ => True) [3, 4, 5, 6, 7, 8, 9, 10, 11, 12, 13, 14, 15, 16, 17, 18, 2] Tryz.follows2 ?mono (by decide) (by kernel_rfl) (by kernel_rfl) (by simp) ?step ?fin
  case mono =>
    intro i v w w' hv hb
    match i, hv with
    | 5, ⟨g, h1, h2⟩ => exact ⟨g, h1, hb.row h2⟩
    | 0, hv => exact hv
    | 1, hv => exact hv
    | 2, hv => exact hv
    | 3, hv => exact hv
    | 4, hv => exact hv
    | 6, hv => exact hv
    | 7, hv => exact hv
    | 8, hv => exact hv
    | 9, hv => exact hv
    | 10, hv => exact hv
    | 11, hv => exact hv
    | 12, hv => exact hv
    | 13, hv => exact hv
    | 14, hv => exact hv
    | 15, hv => exact hv
    | 16, hv => exact hv
    | n + 17, _ => trivial
  case step =>
    intro i o ho a w hb hsame hdep
    have e1 : a.eval (.tmp 1) = .pointer (some ⟨b, 0, none⟩) := ev_old (hsame 1 (by decide))
    have c0 : w.cell? ⟨b, 0, none⟩ = some (.int .u64 (t : Int)) := cell_of (hb.row hrow)
    have c1 : w.cell? ⟨b, 1, none⟩ = some (.int .u8 (k : Int)) := cell_of (hb.row hrow)
    have c2 : w.cell? ⟨b, 2, none⟩ = some (.string d) := cell_of (hb.row hrow)
    have c3 : w.cell? ⟨b, 3, none⟩ = some (.slice ax m.length cx) := cell_of (hb.row hrow)
    match i, ho with
    | 0, ho =>
      cases (show some (_ : Oper) = some o from ho)
      exact Or.inl ⟨_, w, by go_simp, Bel.refl _, rfl⟩
    | 1, ho =>
      cases (show some (_ : Oper) = some o from ho)
      have h3 : a.tmps[3]?.getD undef = .pointer (some ⟨b, 0, none⟩) := tm (hdep ⟨0, .data⟩ (by simp) rfl)
      exact Or.inl ⟨_, w, by go_simp, Bel.refl _, rfl⟩
    | 2, ho =>
      cases (show some (_ : Oper) = some o from ho)
      have h4 : a.tmps[4]?.getD undef = .int .u64 (t : Int) := tm (hdep ⟨1, .data⟩ (by simp) rfl)
      exact Or.inr ⟨_, _, _, by go_simp, (unhide HN) w, fun _ _ ⟨he, hb'⟩ => ⟨_, he, hb', rfl⟩⟩
    | 3, ho =>
      cases (show some (_ : Oper) = some o from ho)
      exact Or.inl ⟨_, w, by go_simp, Bel.refl _, rfl⟩
    | 4, ho =>
      cases (show some (_ : Oper) = some o from ho)
      have h6 : a.tmps[6]?.getD undef = .pointer (some ⟨b, 1, none⟩) := tm (hdep ⟨3, .data⟩ (by simp) rfl)
      exact Or.inl ⟨_, w, by go_simp, Bel.refl _, rfl⟩
    | 5, ho =>
      cases (show some (_ : Oper) = some o from ho)
      have h7 : a.tmps[7]?.getD undef = .int .u8 (k : Int) := tm (hdep ⟨4, .data⟩ (by simp) rfl)
      exact Or.inl ⟨.slice (some ⟨w.heap.size, 0, none⟩) 1 1, w.alloc (.cells #[.int .u8 (k : Int)] 5), by go_simp, (Bel.refl _).alloc _, _, rfl, at_new w _⟩
    | 6, ho =>
      cases (show some (_ : Oper) = some o from ho)
      obtain ⟨g, h8', hg⟩ := hdep ⟨5, .data⟩ (by simp) rfl
      have h8 : a.tmps[8]?.getD undef = .slice (some ⟨g, 0, none⟩) 1 1 := tm h8'
      have hc := conv_byte hk2 hg
      exact Or.inl ⟨_, w, by go_simp, Bel.refl _, rfl⟩
    | 7, ho =>
      cases (show some (_ : Oper) = some o from ho)
      have h5 : a.tmps[5]?.getD undef = .string ⟨N.toArray⟩ := tm (hdep ⟨2, .data⟩ (by simp) rfl)
      have h9 : a.tmps[9]?.getD undef = .string ⟨#[UInt8.ofNat k]⟩ := tm (hdep ⟨6, .data⟩ (by simp) rfl)
      exact Or.inl ⟨_, w, by go_simp, Bel.refl _, rfl⟩
    | 8, ho =>
      cases (show some (_ : Oper) = some o from ho)
      exact Or.inl ⟨_, w, by go_simp, Bel.refl _, rfl⟩
    | 9, ho =>
      cases (show some (_ : Oper) = some o from ho)
      have h11 : a.tmps[11]?.getD undef = .pointer (some ⟨b, 2, none⟩) := tm (hdep ⟨8, .data⟩ (by simp) rfl)
      exact Or.inl ⟨_, w, by go_simp, Bel.refl _, rfl⟩
    | 10, ho =>
      cases (show some (_ : Oper) = some o from ho)
      have h12 : a.tmps[12]?.getD undef = .string d := tm (hdep ⟨9, .data⟩ (by simp) rfl)
      exact Or.inr ⟨_, _, _, by go_simp, (unhide HT) w, fun _ _ ⟨he, hb'⟩ => ⟨_, he, hb', rfl⟩⟩
    | 11, ho =>
      cases (show some (_ : Oper) = some o from ho)
      have h10 : a.tmps[10]?.getD undef = .string (⟨N.toArray⟩ ++ ⟨#[UInt8.ofNat k]⟩) := tm (hdep ⟨7, .data⟩ (by simp) rfl)
      have h13 : a.tmps[13]?.getD undef = .string T := tm (hdep ⟨10, .data⟩ (by simp) rfl)
      exact Or.inl ⟨_, w, by go_simp, Bel.refl _, rfl⟩
    | 12, ho =>
      cases (show some (_ : Oper) = some o from ho)
      exact Or.inl ⟨_, w, by go_simp, Bel.refl _, rfl⟩
    | 13, ho =>
      cases (show some (_ : Oper) = some o from ho)
      have h15 : a.tmps[15]?.getD undef = .pointer (some ⟨b, 3, none⟩) := tm (hdep ⟨12, .data⟩ (by simp) rfl)
      exact Or.inl ⟨_, w, by go_simp, Bel.refl _, rfl⟩
    | 14, ho =>
      cases (show some (_ : Oper) = some o from ho)
      have h16 : a.tmps[16]?.getD undef = .slice ax m.length cx := tm (hdep ⟨13, .data⟩ (by simp) rfl)
      exact Or.inr ⟨_, _, _, by go_simp, (unhide HI) w (hbel.trans hb), fun _ _ ⟨he, hb'⟩ => ⟨_, he, hb', rfl⟩⟩
    | 15, ho =>
      cases (show some (_ : Oper) = some o from ho)
      have h14 : a.tmps[14]?.getD undef = .string ((⟨N.toArray⟩ ++ ⟨#[UInt8.ofNat k]⟩) ++ T) := tm (hdep ⟨11, .data⟩ (by simp) rfl)
      have h17 : a.tmps[17]?.getD undef = .string ⟨I.toArray⟩ := tm (hdep ⟨14, .data⟩ (by simp) rfl)
      exact Or.inl ⟨_, w, by go_simp, Bel.refl _, rfl⟩
    | 16, ho =>
      cases (show some (_ : Oper) = some o from ho)
      have h18 : a.tmps[18]?.getD undef = .string (((⟨N.toArray⟩ ++ ⟨#[UInt8.ofNat k]⟩) ++ T) ++ ⟨I.toArray⟩) := tm (hdep ⟨15, .data⟩ (by simp) rfl)
      exact Or.inl ⟨_, w, by go_simp, Bel.refl _, rfl⟩
    | n + 17, ho => simp at ho
  case fin =>
    intro a w hb hsz hdf hsame hv
    have h2 : a.tmps.getD 2 undef = .string (((⟨N.toArray⟩ ++ ⟨#[UInt8.ofNat k]⟩) ++ T) ++ ⟨I.toArray⟩) := hv 16 (by decide)
    refine hKK _ _ ?_
    go_wp2_with fail
    exact bodyPost_ret (results_tmp rfl _ _ _) hdf ⟨congrArg Ending.returned h2, hbel.trans hb⟩
end Go.Proofs.YtgofdkheffoilaaGreat
