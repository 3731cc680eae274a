/- A message as bytes, as the document has it. -/
import Derived.Test.YtgofdkheffoilaaGreatMrf
namespace Go.Proofs.YtgofdkheffoilaaGreat
open Go.RowKit Go.Maps
theorem lit_of {t : Array Value} {l : List Value} (hs : t.size = l.length) (h : ∀ k, k < l.length → t.getD k undef = l.getD k undef) : t = l.toArray := by
  apply Array.ext
  · rw [hs]; exact List.size_toArray.symm
  · intro i h1 h2
    have h3 := h i (by rw [← hs]; exact h1)
    have h4 : i < l.length := by rw [← hs]; exact h1
    rw [Array.getD_eq_getD_getElem?, Array.getElem?_eq_getElem h1] at h3
    rw [List.getD_eq_getElem?_getD, List.getElem?_eq_getElem h4] at h3
    simpa using h3
theorem getD_same {t s : Array Value} {k : Nat} (h : t[k]? = s[k]?) : t.getD k undef = s.getD k undef := by
  rw [Array.getD_eq_getD_getElem?, Array.getD_eq_getD_getElem?, h]
set_option maxRecDepth 100000 in
set_option maxHeartbeats 8000000 in
theorem refBytes_any {W : World} {m : GM} {x : GX} (h : Gw W m x) (kd fr tn te ix lt co ro : Nat) (e0 : m.kind = kd) (e1 : m.frm = fr) (e2 : m.to = tn) (e3 : m.term = te) (e4 : m.index = ix) (e5 : m.lterm = lt) (e6 : m.commit = co) (e7 : m.round = ro) (b0 : kd < 256) (b1 : fr < 100) (b2 : tn < 100) (b3 : te < 2 ^ 64) (b4 : ix < 2 ^ 64) (b5 : lt < 2 ^ 64) (b6 : co < 2 ^ 64) (b7 : ro < 2 ^ 64) (hl : m.ents.length ≤ 60) (hE : ∀ e ∈ m.ents, Eok e) (hm : m.mem.length ≤ 1048576) (hM : ∀ y ∈ m.mem, 0 ≤ y ∧ y < 9223372036854775808) (hs : m.snap.size ≤ 1048576) :
    Calls Tryz.prog 11 #[.agg (mg m x)] W fun e w' => e = .returned (.string ⟨(msgb m).toArray⟩) ∧ Bel W w' := by
  have hle : x.ls.length = m.ents.length := by rw [← h.e, List.length_map]
  have HN := hide (fun (k : Nat) (hk : Hid (k < 2 ^ 64)) W' => refNum_any k hk W')
  have HI : Hid (∀ W', Bel W W' → Calls Tryz.prog 42 #[.slice x.ma m.mem.length x.mc] W' fun e w' => e = .returned (.string ⟨(idb m.mem).toArray⟩) ∧ Bel W' w') := hide (fun W' hb => numbers_any (h.m.bel hb) x.mc hM hm)
  have HT : Hid (∀ W', Calls Tryz.prog 43 #[.string m.snap] W' fun e w' => e = .returned (.string (ctx m.snap)) ∧ Bel W' w') := hide (fun W' => refText_any m.snap (by omega) W')
  have HEn : Hid (∀ y ∈ x.ls, ∀ W', Bel W W' → Calls Tryz.prog 41 #[.agg (encG y).toArray] W' fun e w' => e = .returned (.string (entb y.1)) ∧ Bel W' w') := hide (fun y hy W' hb => by
    have hk := hE y.1 (by rw [← h.e]; exact List.mem_map.2 ⟨y, hy, rfl⟩)
    exact refEnt_any y ((h.g y hy).bel hb) hk.2.2.2.2 hk.2.2.2.1 (by have := hk.2.2.1; omega) y.1.t.toNat y.1.k.toNat (by have := hk.1; omega) (by have := hk.2.1; omega) (by have := hk.1; omega) (by have := hk.2.1; omega))
  have q2 := num_len m.ents.length (by omega)
  have q3 := entsb_len m.ents hE
  have q4 := idb_len m.mem hM (by omega)
  have q5 := ctx_len m.snap (by omega)
  obtain ⟨g, off, hg, hR⟩ := h.l
  have HG := hide hg
  have HR := hide hR
  have HQ := hide (And.intro q2 (And.intro q3 (And.intro q4 (And.intro q5 (And.intro hl (And.intro hm hs))))))
  have HLE := hide hle
  have HBM := hide h.e
  have HEk := hide hE
  have w1 : IntKind.u64.wrap (fr : Int) = (fr : Int) := by rw [IntKind.wrap_u64]; omega
  have w2 : IntKind.u64.wrap (tn : Int) = (tn : Int) := by rw [IntKind.wrap_u64]; omega
  have w3 : IntKind.u64.wrap (m.ents.length : Int) = (m.ents.length : Int) := by rw [IntKind.wrap_u64]; omega
  have HNe : Hid (m.ents.length < 2 ^ 64) := hide (by omega)
  have HN1 : Hid (∀ W', Calls Tryz.prog 40 #[.int .u64 (fr : Int)] W' fun e w' => e = .returned (.string ⟨(num fr).toArray⟩) ∧ Bel W' w') := hide (fun W' => refNum_any fr (by omega) W')
  have l1 := num_len fr (by omega)
  have HN2 : Hid (∀ W', Calls Tryz.prog 40 #[.int .u64 (tn : Int)] W' fun e w' => e = .returned (.string ⟨(num tn).toArray⟩) ∧ Bel W' w') := hide (fun W' => refNum_any tn (by omega) W')
  have l2 := num_len tn (by omega)
  have HN3 : Hid (∀ W', Calls Tryz.prog 40 #[.int .u64 (te : Int)] W' fun e w' => e = .returned (.string ⟨(num te).toArray⟩) ∧ Bel W' w') := hide (fun W' => refNum_any te (by omega) W')
  have l3 := num_len te (by omega)
  have HN4 : Hid (∀ W', Calls Tryz.prog 40 #[.int .u64 (ix : Int)] W' fun e w' => e = .returned (.string ⟨(num ix).toArray⟩) ∧ Bel W' w') := hide (fun W' => refNum_any ix (by omega) W')
  have l4 := num_len ix (by omega)
  have HN5 : Hid (∀ W', Calls Tryz.prog 40 #[.int .u64 (lt : Int)] W' fun e w' => e = .returned (.string ⟨(num lt).toArray⟩) ∧ Bel W' w') := hide (fun W' => refNum_any lt (by omega) W')
  have l5 := num_len lt (by omega)
  have HN6 : Hid (∀ W', Calls Tryz.prog 40 #[.int .u64 (co : Int)] W' fun e w' => e = .returned (.string ⟨(num co).toArray⟩) ∧ Bel W' w') := hide (fun W' => refNum_any co (by omega) W')
  have l6 := num_len co (by omega)
  have HN7 : Hid (∀ W', Calls Tryz.prog 40 #[.int .u64 (ro : Int)] W' fun e w' => e = .returned (.string ⟨(num ro).toArray⟩) ∧ Bel W' w') := hide (fun W' => refNum_any ro (by omega) W')
  have l7 := num_len ro (by omega)
  have HB : Hid (msgb m = (UInt8.ofNat kd :: (num fr ++ (num tn ++ (num te ++ (num ix ++ (num lt ++ (num co ++ num ro)))))) ++ [if m.ok then 1 else 0] ++ num m.ents.length ++ entsb m.ents) ++ idb m.mem ++ (ctx m.snap).data.toList) := hide (by unfold msgb hdb; rw [e0, e1, e2, e3, e4, e5, e6, e7]; simp)
  rw [unhide HB]
  clear HB q2 q3 q4 q5 hl hE hm hM hs h hg hR hle b1 b2 b3 b4 b5 b6 b7
  generalize num fr = N1 at *
  generalize num tn = N2 at *
  generalize num te = N3 at *
  generalize num ix = N4 at *
  generalize num lt = N5 at *
  generalize num co = N6 at *
  generalize num ro = N7 at *
  have z1 : ¬ (9223372036854775807 < 1 + N1.length) := by omega
  have z2 : ¬ (9223372036854775807 < 1 + N1.length + N2.length) := by omega
  have z3 : ¬ (9223372036854775807 < 1 + N1.length + N2.length + N3.length) := by omega
  have z4 : ¬ (9223372036854775807 < 1 + N1.length + N2.length + N3.length + N4.length) := by omega
  have z5 : ¬ (9223372036854775807 < 1 + N1.length + N2.length + N3.length + N4.length + N5.length) := by omega
  have z6 : ¬ (9223372036854775807 < 1 + N1.length + N2.length + N3.length + N4.length + N5.length + N6.length) := by omega
  have z7 : ¬ (9223372036854775807 < 1 + N1.length + N2.length + N3.length + N4.length + N5.length + N6.length + N7.length) := by omega
  have HLS : Hid (1 + N1.length + N2.length + N3.length + N4.length + N5.length + N6.length + N7.length ≤ 64) := hide (by omega)
  clear l1 l2 l3 l4 l5 l6 l7
  go_enter Tryz.func11, Tryz.ntmps11
  go_wp2_with (first
    | go_skip
    | (refine bx_box rfl 27 _ rfl (mg m x) rfl ?_; intro b w0 hrow hs0 hbel; clear hs0))
  rename_i QQ KK hKK
  refine rg_mn (fun i v w => match i with
    | 0 => v = .pointer (some ⟨b, 0, none⟩)
    | 1 => v = .int .u8 (kd : Int)
    | 2 => ∃ g, v = .slice (some ⟨g, 0, none⟩) 1 1 ∧ w.heap[g]? = some (.cells #[.int .u8 (kd : Int)] 5)
    | 3 => v = .string ⟨#[UInt8.ofNat kd]⟩
    | 4 => v = .pointer (some ⟨b, 1, none⟩)
    | 5 => v = .int .i64 (fr : Int)
    | 6 => v = .int .u64 (fr : Int)
    | 7 => v = .string ⟨N1.toArray⟩
    | 8 => v = .string (⟨#[UInt8.ofNat kd]⟩ ++ ⟨N1.toArray⟩)
    | 9 => v = .pointer (some ⟨b, 2, none⟩)
    | 10 => v = .int .i64 (tn : Int)
    | 11 => v = .int .u64 (tn : Int)
    | 12 => v = .string ⟨N2.toArray⟩
    | 13 => v = .string ((⟨#[UInt8.ofNat kd]⟩ ++ ⟨N1.toArray⟩) ++ ⟨N2.toArray⟩)
    | 14 => v = .pointer (some ⟨b, 3, none⟩)
    | 15 => v = .int .u64 (te : Int)
    | 16 => v = .string ⟨N3.toArray⟩
    | 17 => v = .string (((⟨#[UInt8.ofNat kd]⟩ ++ ⟨N1.toArray⟩) ++ ⟨N2.toArray⟩) ++ ⟨N3.toArray⟩)
    | 18 => v = .pointer (some ⟨b, 4, none⟩)
    | 19 => v = .int .u64 (ix : Int)
    | 20 => v = .string ⟨N4.toArray⟩
    | 21 => v = .string ((((⟨#[UInt8.ofNat kd]⟩ ++ ⟨N1.toArray⟩) ++ ⟨N2.toArray⟩) ++ ⟨N3.toArray⟩) ++ ⟨N4.toArray⟩)
    | 22 => v = .pointer (some ⟨b, 5, none⟩)
    | 23 => v = .int .u64 (lt : Int)
    | 24 => v = .string ⟨N5.toArray⟩
    | 25 => v = .string (((((⟨#[UInt8.ofNat kd]⟩ ++ ⟨N1.toArray⟩) ++ ⟨N2.toArray⟩) ++ ⟨N3.toArray⟩) ++ ⟨N4.toArray⟩) ++ ⟨N5.toArray⟩)
    | 26 => v = .pointer (some ⟨b, 6, none⟩)
    | 27 => v = .int .u64 (co : Int)
    | 28 => v = .string ⟨N6.toArray⟩
    | 29 => v = .string ((((((⟨#[UInt8.ofNat kd]⟩ ++ ⟨N1.toArray⟩) ++ ⟨N2.toArray⟩) ++ ⟨N3.toArray⟩) ++ ⟨N4.toArray⟩) ++ ⟨N5.toArray⟩) ++ ⟨N6.toArray⟩)
    | 30 => v = .pointer (some ⟨b, 7, none⟩)
    | 31 => v = .int .u64 (ro : Int)
    | 32 => v = .string ⟨N7.toArray⟩
    | 33 => v = .string (((((((⟨#[UInt8.ofNat kd]⟩ ++ ⟨N1.toArray⟩) ++ ⟨N2.toArray⟩) ++ ⟨N3.toArray⟩) ++ ⟨N4.toArray⟩) ++ ⟨N5.toArray⟩) ++ ⟨N6.toArray⟩) ++ ⟨N7.toArray⟩)
    | 34 => v = .string (((((((⟨#[UInt8.ofNat kd]⟩ ++ ⟨N1.toArray⟩) ++ ⟨N2.toArray⟩) ++ ⟨N3.toArray⟩) ++ ⟨N4.toArray⟩) ++ ⟨N5.toArray⟩) ++ ⟨N6.toArray⟩) ++ ⟨N7.toArray⟩)
    | _ => True) [5, 6, 7, 8, 9, 10, 11, 12, 13, 14, 15, 16, 17, 18, 19, 20, 21, 22, 23, 24, 25, 26, 27, 28, 29, 30, 31, 32, 33, 34, 35, 36, 37, 38, 3] Tryz.follows2 ?mono (by decide) (by kernel_rfl) (by kernel_rfl) (by simp) ?step ?fin
  case mono =>
    intro i v w w' hv hb
    match i, hv with
    | 0, hv => exact hv
    | 1, hv => exact hv
    | 2, ⟨g, h1, h2⟩ => exact ⟨g, h1, hb.row h2⟩
    | 3, hv => exact hv
    | 4, hv => exact hv
    | 5, hv => exact hv
    | 6, hv => exact hv
    | 7, hv => exact hv
    | 8, hv => exact hv
    | 9, hv => exact hv
    | 10, hv => exact hv
    | 11, hv => exact hv
    | 12, hv => exact hv
    | 13, hv => exact hv
    | 14, hv => exact hv
    | 15, hv => exact hv
    | 16, hv => exact hv
    | 17, hv => exact hv
    | 18, hv => exact hv
    | 19, hv => exact hv
    | 20, hv => exact hv
    | 21, hv => exact hv
    | 22, hv => exact hv
    | 23, hv => exact hv
    | 24, hv => exact hv
    | 25, hv => exact hv
    | 26, hv => exact hv
    | 27, hv => exact hv
    | 28, hv => exact hv
    | 29, hv => exact hv
    | 30, hv => exact hv
    | 31, hv => exact hv
    | 32, hv => exact hv
    | 33, hv => exact hv
    | 34, hv => exact hv
    | n + 35, _ => trivial
  case step =>
    intro i o ho a w hb hsame hdep
    have e1' : a.eval (.tmp 1) = .pointer (some ⟨b, 0, none⟩) := ev_old (hsame 1 (by decide))
    obtain ⟨c0, c1, c2, c3, c4, c5, c6, c7, _, _, _, _⟩ := Mb2.of (hb.row hrow)
    rw [e0] at c0; rw [e1] at c1; rw [e2] at c2; rw [e3] at c3; rw [e4] at c4; rw [e5] at c5; rw [e6] at c6; rw [e7] at c7
    match i, ho with
    | 0, ho =>
      cases (show some (_ : Oper) = some o from ho)
      exact Or.inl ⟨_, w, by go_simp, Bel.refl _, rfl⟩
    | 1, ho =>
      cases (show some (_ : Oper) = some o from ho)
      have hh : a.tmps[5]?.getD undef = .pointer (some ⟨b, 0, none⟩) := tm (hdep ⟨0, .data⟩ (by simp) rfl)
      exact Or.inl ⟨_, w, by go_simp, Bel.refl _, rfl⟩
    | 2, ho =>
      cases (show some (_ : Oper) = some o from ho)
      have hh : a.tmps[6]?.getD undef = .int .u8 (kd : Int) := tm (hdep ⟨1, .data⟩ (by simp) rfl)
      exact Or.inl ⟨.slice (some ⟨w.heap.size, 0, none⟩) 1 1, w.alloc (.cells #[.int .u8 (kd : Int)] 5), by go_simp, (Bel.refl _).alloc _, _, rfl, at_new w _⟩
    | 3, ho =>
      cases (show some (_ : Oper) = some o from ho)
      obtain ⟨g, h8', hg⟩ := hdep ⟨2, .data⟩ (by simp) rfl
      have h8 : a.tmps[7]?.getD undef = .slice (some ⟨g, 0, none⟩) 1 1 := tm h8'
      have hc := conv_byte b0 hg
      exact Or.inl ⟨_, w, by go_simp, Bel.refl _, rfl⟩
    | 4, ho =>
      cases (show some (_ : Oper) = some o from ho)
      exact Or.inl ⟨_, w, by go_simp, Bel.refl _, rfl⟩
    | 5, ho =>
      cases (show some (_ : Oper) = some o from ho)
      have hh : a.tmps[9]?.getD undef = .pointer (some ⟨b, 1, none⟩) := tm (hdep ⟨4, .data⟩ (by simp) rfl)
      exact Or.inl ⟨_, w, by go_simp, Bel.refl _, rfl⟩
    | 6, ho =>
      cases (show some (_ : Oper) = some o from ho)
      have hh : a.tmps[10]?.getD undef = .int .i64 (fr : Int) := tm (hdep ⟨5, .data⟩ (by simp) rfl)
      exact Or.inl ⟨_, w, by go_simp, Bel.refl _, rfl⟩
    | 7, ho =>
      cases (show some (_ : Oper) = some o from ho)
      have hh : a.tmps[11]?.getD undef = .int .u64 (fr : Int) := tm (hdep ⟨6, .data⟩ (by simp) rfl)
      exact Or.inr ⟨_, _, _, by go_simp, (unhide HN1) w, fun _ _ ⟨he, hb'⟩ => ⟨_, he, hb', rfl⟩⟩
    | 8, ho =>
      cases (show some (_ : Oper) = some o from ho)
      have hh : a.tmps[8]?.getD undef = .string ⟨#[UInt8.ofNat kd]⟩ := tm (hdep ⟨3, .data⟩ (by simp) rfl)
      have hi : a.tmps[12]?.getD undef = .string ⟨N1.toArray⟩ := tm (hdep ⟨7, .data⟩ (by simp) rfl)
      exact Or.inl ⟨_, w, by go_simp, Bel.refl _, rfl⟩
    | 9, ho =>
      cases (show some (_ : Oper) = some o from ho)
      exact Or.inl ⟨_, w, by go_simp, Bel.refl _, rfl⟩
    | 10, ho =>
      cases (show some (_ : Oper) = some o from ho)
      have hh : a.tmps[14]?.getD undef = .pointer (some ⟨b, 2, none⟩) := tm (hdep ⟨9, .data⟩ (by simp) rfl)
      exact Or.inl ⟨_, w, by go_simp, Bel.refl _, rfl⟩
    | 11, ho =>
      cases (show some (_ : Oper) = some o from ho)
      have hh : a.tmps[15]?.getD undef = .int .i64 (tn : Int) := tm (hdep ⟨10, .data⟩ (by simp) rfl)
      exact Or.inl ⟨_, w, by go_simp, Bel.refl _, rfl⟩
    | 12, ho =>
      cases (show some (_ : Oper) = some o from ho)
      have hh : a.tmps[16]?.getD undef = .int .u64 (tn : Int) := tm (hdep ⟨11, .data⟩ (by simp) rfl)
      exact Or.inr ⟨_, _, _, by go_simp, (unhide HN2) w, fun _ _ ⟨he, hb'⟩ => ⟨_, he, hb', rfl⟩⟩
    | 13, ho =>
      cases (show some (_ : Oper) = some o from ho)
      have hh : a.tmps[13]?.getD undef = .string (⟨#[UInt8.ofNat kd]⟩ ++ ⟨N1.toArray⟩) := tm (hdep ⟨8, .data⟩ (by simp) rfl)
      have hi : a.tmps[17]?.getD undef = .string ⟨N2.toArray⟩ := tm (hdep ⟨12, .data⟩ (by simp) rfl)
      exact Or.inl ⟨_, w, by go_simp, Bel.refl _, rfl⟩
    | 14, ho =>
      cases (show some (_ : Oper) = some o from ho)
      exact Or.inl ⟨_, w, by go_simp, Bel.refl _, rfl⟩
    | 15, ho =>
      cases (show some (_ : Oper) = some o from ho)
      have hh : a.tmps[19]?.getD undef = .pointer (some ⟨b, 3, none⟩) := tm (hdep ⟨14, .data⟩ (by simp) rfl)
      exact Or.inl ⟨_, w, by go_simp, Bel.refl _, rfl⟩
    | 16, ho =>
      cases (show some (_ : Oper) = some o from ho)
      have hh : a.tmps[20]?.getD undef = .int .u64 (te : Int) := tm (hdep ⟨15, .data⟩ (by simp) rfl)
      exact Or.inr ⟨_, _, _, by go_simp, (unhide HN3) w, fun _ _ ⟨he, hb'⟩ => ⟨_, he, hb', rfl⟩⟩
    | 17, ho =>
      cases (show some (_ : Oper) = some o from ho)
      have hh : a.tmps[18]?.getD undef = .string ((⟨#[UInt8.ofNat kd]⟩ ++ ⟨N1.toArray⟩) ++ ⟨N2.toArray⟩) := tm (hdep ⟨13, .data⟩ (by simp) rfl)
      have hi : a.tmps[21]?.getD undef = .string ⟨N3.toArray⟩ := tm (hdep ⟨16, .data⟩ (by simp) rfl)
      exact Or.inl ⟨_, w, by go_simp, Bel.refl _, rfl⟩
    | 18, ho =>
      cases (show some (_ : Oper) = some o from ho)
      exact Or.inl ⟨_, w, by go_simp, Bel.refl _, rfl⟩
    | 19, ho =>
      cases (show some (_ : Oper) = some o from ho)
      have hh : a.tmps[23]?.getD undef = .pointer (some ⟨b, 4, none⟩) := tm (hdep ⟨18, .data⟩ (by simp) rfl)
      exact Or.inl ⟨_, w, by go_simp, Bel.refl _, rfl⟩
    | 20, ho =>
      cases (show some (_ : Oper) = some o from ho)
      have hh : a.tmps[24]?.getD undef = .int .u64 (ix : Int) := tm (hdep ⟨19, .data⟩ (by simp) rfl)
      exact Or.inr ⟨_, _, _, by go_simp, (unhide HN4) w, fun _ _ ⟨he, hb'⟩ => ⟨_, he, hb', rfl⟩⟩
    | 21, ho =>
      cases (show some (_ : Oper) = some o from ho)
      have hh : a.tmps[22]?.getD undef = .string (((⟨#[UInt8.ofNat kd]⟩ ++ ⟨N1.toArray⟩) ++ ⟨N2.toArray⟩) ++ ⟨N3.toArray⟩) := tm (hdep ⟨17, .data⟩ (by simp) rfl)
      have hi : a.tmps[25]?.getD undef = .string ⟨N4.toArray⟩ := tm (hdep ⟨20, .data⟩ (by simp) rfl)
      exact Or.inl ⟨_, w, by go_simp, Bel.refl _, rfl⟩
    | 22, ho =>
      cases (show some (_ : Oper) = some o from ho)
      exact Or.inl ⟨_, w, by go_simp, Bel.refl _, rfl⟩
    | 23, ho =>
      cases (show some (_ : Oper) = some o from ho)
      have hh : a.tmps[27]?.getD undef = .pointer (some ⟨b, 5, none⟩) := tm (hdep ⟨22, .data⟩ (by simp) rfl)
      exact Or.inl ⟨_, w, by go_simp, Bel.refl _, rfl⟩
    | 24, ho =>
      cases (show some (_ : Oper) = some o from ho)
      have hh : a.tmps[28]?.getD undef = .int .u64 (lt : Int) := tm (hdep ⟨23, .data⟩ (by simp) rfl)
      exact Or.inr ⟨_, _, _, by go_simp, (unhide HN5) w, fun _ _ ⟨he, hb'⟩ => ⟨_, he, hb', rfl⟩⟩
    | 25, ho =>
      cases (show some (_ : Oper) = some o from ho)
      have hh : a.tmps[26]?.getD undef = .string ((((⟨#[UInt8.ofNat kd]⟩ ++ ⟨N1.toArray⟩) ++ ⟨N2.toArray⟩) ++ ⟨N3.toArray⟩) ++ ⟨N4.toArray⟩) := tm (hdep ⟨21, .data⟩ (by simp) rfl)
      have hi : a.tmps[29]?.getD undef = .string ⟨N5.toArray⟩ := tm (hdep ⟨24, .data⟩ (by simp) rfl)
      exact Or.inl ⟨_, w, by go_simp, Bel.refl _, rfl⟩
    | 26, ho =>
      cases (show some (_ : Oper) = some o from ho)
      exact Or.inl ⟨_, w, by go_simp, Bel.refl _, rfl⟩
    | 27, ho =>
      cases (show some (_ : Oper) = some o from ho)
      have hh : a.tmps[31]?.getD undef = .pointer (some ⟨b, 6, none⟩) := tm (hdep ⟨26, .data⟩ (by simp) rfl)
      exact Or.inl ⟨_, w, by go_simp, Bel.refl _, rfl⟩
    | 28, ho =>
      cases (show some (_ : Oper) = some o from ho)
      have hh : a.tmps[32]?.getD undef = .int .u64 (co : Int) := tm (hdep ⟨27, .data⟩ (by simp) rfl)
      exact Or.inr ⟨_, _, _, by go_simp, (unhide HN6) w, fun _ _ ⟨he, hb'⟩ => ⟨_, he, hb', rfl⟩⟩
    | 29, ho =>
      cases (show some (_ : Oper) = some o from ho)
      have hh : a.tmps[30]?.getD undef = .string (((((⟨#[UInt8.ofNat kd]⟩ ++ ⟨N1.toArray⟩) ++ ⟨N2.toArray⟩) ++ ⟨N3.toArray⟩) ++ ⟨N4.toArray⟩) ++ ⟨N5.toArray⟩) := tm (hdep ⟨25, .data⟩ (by simp) rfl)
      have hi : a.tmps[33]?.getD undef = .string ⟨N6.toArray⟩ := tm (hdep ⟨28, .data⟩ (by simp) rfl)
      exact Or.inl ⟨_, w, by go_simp, Bel.refl _, rfl⟩
    | 30, ho =>
      cases (show some (_ : Oper) = some o from ho)
      exact Or.inl ⟨_, w, by go_simp, Bel.refl _, rfl⟩
    | 31, ho =>
      cases (show some (_ : Oper) = some o from ho)
      have hh : a.tmps[35]?.getD undef = .pointer (some ⟨b, 7, none⟩) := tm (hdep ⟨30, .data⟩ (by simp) rfl)
      exact Or.inl ⟨_, w, by go_simp, Bel.refl _, rfl⟩
    | 32, ho =>
      cases (show some (_ : Oper) = some o from ho)
      have hh : a.tmps[36]?.getD undef = .int .u64 (ro : Int) := tm (hdep ⟨31, .data⟩ (by simp) rfl)
      exact Or.inr ⟨_, _, _, by go_simp, (unhide HN7) w, fun _ _ ⟨he, hb'⟩ => ⟨_, he, hb', rfl⟩⟩
    | 33, ho =>
      cases (show some (_ : Oper) = some o from ho)
      have hh : a.tmps[34]?.getD undef = .string ((((((⟨#[UInt8.ofNat kd]⟩ ++ ⟨N1.toArray⟩) ++ ⟨N2.toArray⟩) ++ ⟨N3.toArray⟩) ++ ⟨N4.toArray⟩) ++ ⟨N5.toArray⟩) ++ ⟨N6.toArray⟩) := tm (hdep ⟨29, .data⟩ (by simp) rfl)
      have hi : a.tmps[37]?.getD undef = .string ⟨N7.toArray⟩ := tm (hdep ⟨32, .data⟩ (by simp) rfl)
      exact Or.inl ⟨_, w, by go_simp, Bel.refl _, rfl⟩
    | 34, ho =>
      cases (show some (_ : Oper) = some o from ho)
      have hh : a.tmps[38]?.getD undef = .string (((((((⟨#[UInt8.ofNat kd]⟩ ++ ⟨N1.toArray⟩) ++ ⟨N2.toArray⟩) ++ ⟨N3.toArray⟩) ++ ⟨N4.toArray⟩) ++ ⟨N5.toArray⟩) ++ ⟨N6.toArray⟩) ++ ⟨N7.toArray⟩) := tm (hdep ⟨33, .data⟩ (by simp) rfl)
      exact Or.inl ⟨_, w, by go_simp, Bel.refl _, rfl⟩
    | n + 35, ho => simp at ho
  case fin =>
    intro a w hb hsz hdf hsame hv
    refine hKK _ _ ?_
    obtain ⟨g7, h7, _⟩ := hv 2 (by decide)
    have ha : a = ⟨#[.agg (mg m x), .pointer (some ⟨b, 0, none⟩), .string ⟨#[]⟩, .string (((((((⟨#[UInt8.ofNat kd]⟩ ++ ⟨N1.toArray⟩) ++ ⟨N2.toArray⟩) ++ ⟨N3.toArray⟩) ++ ⟨N4.toArray⟩) ++ ⟨N5.toArray⟩) ++ ⟨N6.toArray⟩) ++ ⟨N7.toArray⟩), undef, .pointer (some ⟨b, 0, none⟩), .int .u8 (kd : Int), .slice (some ⟨g7, 0, none⟩) 1 1, .string ⟨#[UInt8.ofNat kd]⟩, .pointer (some ⟨b, 1, none⟩), .int .i64 (fr : Int), .int .u64 (fr : Int), .string ⟨N1.toArray⟩, .string (⟨#[UInt8.ofNat kd]⟩ ++ ⟨N1.toArray⟩), .pointer (some ⟨b, 2, none⟩), .int .i64 (tn : Int), .int .u64 (tn : Int), .string ⟨N2.toArray⟩, .string ((⟨#[UInt8.ofNat kd]⟩ ++ ⟨N1.toArray⟩) ++ ⟨N2.toArray⟩), .pointer (some ⟨b, 3, none⟩), .int .u64 (te : Int), .string ⟨N3.toArray⟩, .string (((⟨#[UInt8.ofNat kd]⟩ ++ ⟨N1.toArray⟩) ++ ⟨N2.toArray⟩) ++ ⟨N3.toArray⟩), .pointer (some ⟨b, 4, none⟩), .int .u64 (ix : Int), .string ⟨N4.toArray⟩, .string ((((⟨#[UInt8.ofNat kd]⟩ ++ ⟨N1.toArray⟩) ++ ⟨N2.toArray⟩) ++ ⟨N3.toArray⟩) ++ ⟨N4.toArray⟩), .pointer (some ⟨b, 5, none⟩), .int .u64 (lt : Int), .string ⟨N5.toArray⟩, .string (((((⟨#[UInt8.ofNat kd]⟩ ++ ⟨N1.toArray⟩) ++ ⟨N2.toArray⟩) ++ ⟨N3.toArray⟩) ++ ⟨N4.toArray⟩) ++ ⟨N5.toArray⟩), .pointer (some ⟨b, 6, none⟩), .int .u64 (co : Int), .string ⟨N6.toArray⟩, .string ((((((⟨#[UInt8.ofNat kd]⟩ ++ ⟨N1.toArray⟩) ++ ⟨N2.toArray⟩) ++ ⟨N3.toArray⟩) ++ ⟨N4.toArray⟩) ++ ⟨N5.toArray⟩) ++ ⟨N6.toArray⟩), .pointer (some ⟨b, 7, none⟩), .int .u64 (ro : Int), .string ⟨N7.toArray⟩, .string (((((((⟨#[UInt8.ofNat kd]⟩ ++ ⟨N1.toArray⟩) ++ ⟨N2.toArray⟩) ++ ⟨N3.toArray⟩) ++ ⟨N4.toArray⟩) ++ ⟨N5.toArray⟩) ++ ⟨N6.toArray⟩) ++ ⟨N7.toArray⟩), undef, undef, undef, undef, undef, undef, undef, undef, undef, undef, undef, undef, undef, undef, undef, undef, undef, undef, undef, undef, undef, undef, undef, undef, undef, undef, undef, undef, undef, undef, undef, undef, undef, undef, undef, undef, undef], []⟩ := by
      cases a with
      | mk tms dfs =>
        simp only at hsz hdf hsame hv h7
        have h9 : tms = [.agg (mg m x), .pointer (some ⟨b, 0, none⟩), .string ⟨#[]⟩, .string (((((((⟨#[UInt8.ofNat kd]⟩ ++ ⟨N1.toArray⟩) ++ ⟨N2.toArray⟩) ++ ⟨N3.toArray⟩) ++ ⟨N4.toArray⟩) ++ ⟨N5.toArray⟩) ++ ⟨N6.toArray⟩) ++ ⟨N7.toArray⟩), undef, .pointer (some ⟨b, 0, none⟩), .int .u8 (kd : Int), .slice (some ⟨g7, 0, none⟩) 1 1, .string ⟨#[UInt8.ofNat kd]⟩, .pointer (some ⟨b, 1, none⟩), .int .i64 (fr : Int), .int .u64 (fr : Int), .string ⟨N1.toArray⟩, .string (⟨#[UInt8.ofNat kd]⟩ ++ ⟨N1.toArray⟩), .pointer (some ⟨b, 2, none⟩), .int .i64 (tn : Int), .int .u64 (tn : Int), .string ⟨N2.toArray⟩, .string ((⟨#[UInt8.ofNat kd]⟩ ++ ⟨N1.toArray⟩) ++ ⟨N2.toArray⟩), .pointer (some ⟨b, 3, none⟩), .int .u64 (te : Int), .string ⟨N3.toArray⟩, .string (((⟨#[UInt8.ofNat kd]⟩ ++ ⟨N1.toArray⟩) ++ ⟨N2.toArray⟩) ++ ⟨N3.toArray⟩), .pointer (some ⟨b, 4, none⟩), .int .u64 (ix : Int), .string ⟨N4.toArray⟩, .string ((((⟨#[UInt8.ofNat kd]⟩ ++ ⟨N1.toArray⟩) ++ ⟨N2.toArray⟩) ++ ⟨N3.toArray⟩) ++ ⟨N4.toArray⟩), .pointer (some ⟨b, 5, none⟩), .int .u64 (lt : Int), .string ⟨N5.toArray⟩, .string (((((⟨#[UInt8.ofNat kd]⟩ ++ ⟨N1.toArray⟩) ++ ⟨N2.toArray⟩) ++ ⟨N3.toArray⟩) ++ ⟨N4.toArray⟩) ++ ⟨N5.toArray⟩), .pointer (some ⟨b, 6, none⟩), .int .u64 (co : Int), .string ⟨N6.toArray⟩, .string ((((((⟨#[UInt8.ofNat kd]⟩ ++ ⟨N1.toArray⟩) ++ ⟨N2.toArray⟩) ++ ⟨N3.toArray⟩) ++ ⟨N4.toArray⟩) ++ ⟨N5.toArray⟩) ++ ⟨N6.toArray⟩), .pointer (some ⟨b, 7, none⟩), .int .u64 (ro : Int), .string ⟨N7.toArray⟩, .string (((((((⟨#[UInt8.ofNat kd]⟩ ++ ⟨N1.toArray⟩) ++ ⟨N2.toArray⟩) ++ ⟨N3.toArray⟩) ++ ⟨N4.toArray⟩) ++ ⟨N5.toArray⟩) ++ ⟨N6.toArray⟩) ++ ⟨N7.toArray⟩), undef, undef, undef, undef, undef, undef, undef, undef, undef, undef, undef, undef, undef, undef, undef, undef, undef, undef, undef, undef, undef, undef, undef, undef, undef, undef, undef, undef, undef, undef, undef, undef, undef, undef, undef, undef, undef].toArray := lit_of hsz (fun k hk => ?_)
        · rw [h9, hdf]
        · match k, hk with
          | 0, _ => exact (getD_same (hsame 0 (by decide))).trans rfl
          | 1, _ => exact (getD_same (hsame 1 (by decide))).trans rfl
          | 2, _ => exact (getD_same (hsame 2 (by decide))).trans rfl
          | 3, _ => exact hv 34 (by decide)
          | 4, _ => exact (getD_same (hsame 4 (by decide))).trans rfl
          | 5, _ => exact hv 0 (by decide)
          | 6, _ => exact hv 1 (by decide)
          | 7, _ => exact h7
          | 8, _ => exact hv 3 (by decide)
          | 9, _ => exact hv 4 (by decide)
          | 10, _ => exact hv 5 (by decide)
          | 11, _ => exact hv 6 (by decide)
          | 12, _ => exact hv 7 (by decide)
          | 13, _ => exact hv 8 (by decide)
          | 14, _ => exact hv 9 (by decide)
          | 15, _ => exact hv 10 (by decide)
          | 16, _ => exact hv 11 (by decide)
          | 17, _ => exact hv 12 (by decide)
          | 18, _ => exact hv 13 (by decide)
          | 19, _ => exact hv 14 (by decide)
          | 20, _ => exact hv 15 (by decide)
          | 21, _ => exact hv 16 (by decide)
          | 22, _ => exact hv 17 (by decide)
          | 23, _ => exact hv 18 (by decide)
          | 24, _ => exact hv 19 (by decide)
          | 25, _ => exact hv 20 (by decide)
          | 26, _ => exact hv 21 (by decide)
          | 27, _ => exact hv 22 (by decide)
          | 28, _ => exact hv 23 (by decide)
          | 29, _ => exact hv 24 (by decide)
          | 30, _ => exact hv 25 (by decide)
          | 31, _ => exact hv 26 (by decide)
          | 32, _ => exact hv 27 (by decide)
          | 33, _ => exact hv 28 (by decide)
          | 34, _ => exact hv 29 (by decide)
          | 35, _ => exact hv 30 (by decide)
          | 36, _ => exact hv 31 (by decide)
          | 37, _ => exact hv 32 (by decide)
          | 38, _ => exact hv 33 (by decide)
          | 39, _ => exact (getD_same (hsame 39 (by decide))).trans rfl
          | 40, _ => exact (getD_same (hsame 40 (by decide))).trans rfl
          | 41, _ => exact (getD_same (hsame 41 (by decide))).trans rfl
          | 42, _ => exact (getD_same (hsame 42 (by decide))).trans rfl
          | 43, _ => exact (getD_same (hsame 43 (by decide))).trans rfl
          | 44, _ => exact (getD_same (hsame 44 (by decide))).trans rfl
          | 45, _ => exact (getD_same (hsame 45 (by decide))).trans rfl
          | 46, _ => exact (getD_same (hsame 46 (by decide))).trans rfl
          | 47, _ => exact (getD_same (hsame 47 (by decide))).trans rfl
          | 48, _ => exact (getD_same (hsame 48 (by decide))).trans rfl
          | 49, _ => exact (getD_same (hsame 49 (by decide))).trans rfl
          | 50, _ => exact (getD_same (hsame 50 (by decide))).trans rfl
          | 51, _ => exact (getD_same (hsame 51 (by decide))).trans rfl
          | 52, _ => exact (getD_same (hsame 52 (by decide))).trans rfl
          | 53, _ => exact (getD_same (hsame 53 (by decide))).trans rfl
          | 54, _ => exact (getD_same (hsame 54 (by decide))).trans rfl
          | 55, _ => exact (getD_same (hsame 55 (by decide))).trans rfl
          | 56, _ => exact (getD_same (hsame 56 (by decide))).trans rfl
          | 57, _ => exact (getD_same (hsame 57 (by decide))).trans rfl
          | 58, _ => exact (getD_same (hsame 58 (by decide))).trans rfl
          | 59, _ => exact (getD_same (hsame 59 (by decide))).trans rfl
          | 60, _ => exact (getD_same (hsame 60 (by decide))).trans rfl
          | 61, _ => exact (getD_same (hsame 61 (by decide))).trans rfl
          | 62, _ => exact (getD_same (hsame 62 (by decide))).trans rfl
          | 63, _ => exact (getD_same (hsame 63 (by decide))).trans rfl
          | 64, _ => exact (getD_same (hsame 64 (by decide))).trans rfl
          | 65, _ => exact (getD_same (hsame 65 (by decide))).trans rfl
          | 66, _ => exact (getD_same (hsame 66 (by decide))).trans rfl
          | 67, _ => exact (getD_same (hsame 67 (by decide))).trans rfl
          | 68, _ => exact (getD_same (hsame 68 (by decide))).trans rfl
          | 69, _ => exact (getD_same (hsame 69 (by decide))).trans rfl
          | 70, _ => exact (getD_same (hsame 70 (by decide))).trans rfl
          | 71, _ => exact (getD_same (hsame 71 (by decide))).trans rfl
          | 72, _ => exact (getD_same (hsame 72 (by decide))).trans rfl
          | 73, _ => exact (getD_same (hsame 73 (by decide))).trans rfl
          | 74, _ => exact (getD_same (hsame 74 (by decide))).trans rfl
          | 75, _ => exact (getD_same (hsame 75 (by decide))).trans rfl
          | n + 76, hk => simp at hk; omega
    rw [ha]
    have HS7 : Hid (∃ L : List UInt8, ((((((((⟨#[UInt8.ofNat kd]⟩ ++ ⟨N1.toArray⟩) ++ ⟨N2.toArray⟩) ++ ⟨N3.toArray⟩) ++ ⟨N4.toArray⟩) ++ ⟨N5.toArray⟩) ++ ⟨N6.toArray⟩) ++ ⟨N7.toArray⟩) : ByteArray) = ⟨L.toArray⟩ ∧ L = UInt8.ofNat kd :: (N1 ++ (N2 ++ (N3 ++ (N4 ++ (N5 ++ (N6 ++ N7)))))) ∧ L.length ≤ 64) := hide ⟨_, ba_ext (by simp), rfl, by have := unhide HLS; simp only [List.length_cons, List.length_append]; omega⟩
    obtain ⟨L1, hL1, hL2, hL3⟩ := unhide HS7
    rw [hL1]
    have HO := hide (And.intro (hb.row hrow) (hbel.trans hb))
    have HL2 := hide hL2
    have HL3 := hide hL3
    clear ha hv hsame hdf hsz hb hrow hbel hKK HS7 hL1 hL2 hL3 h7
    have c8 := (Mb2.of (unhide HO).1).c8
    have HLE2 : Hid ((num m.ents.length).length ≤ 9) := hide (unhide HQ).1
    clear z1 z2 z3 z4 z5 z6 z7 HN1 HN2 HN3 HN4 HN5 HN6 HN7 HLS w1 w2
    cases hok : m.ok
    · rw [hok] at c8
      have zz1 : ¬ (9223372036854775807 < L1.length + 1) := by have := unhide HL3; omega
      have zz2 : ¬ (9223372036854775807 < L1.length + 1 + (num m.ents.length).length) := by have := unhide HL3; have := unhide HLE2; omega
      have c9 := (Mb2.of (unhide HO).1).c9
      generalize hne : m.ents.length = ne at *
      have HNE := hide hne
      clear hne
      go_wp2_with (first
        | (go_at_call 40; refine ((unhide HN) _ HNe _).mono ?_; rintro e w7 ⟨rfl, hb7⟩; replace HO := hide (And.intro (hb7.row (unhide HO).1) ((unhide HO).2.trans hb7)); clear hb7 c9 c8))
      generalize hL2' : L1 ++ [0] ++ num ne = L2 at *
      have HL2' := hide hL2'
      have HL2l : Hid (L2.length ≤ 80) := hide (by rw [← unhide HL2', List.length_append, List.length_append, List.length_singleton]; have := unhide HL3; have := unhide HLE2; omega)
      have hn60 : ne ≤ 60 := (unhide HQ).2.2.2.2.1
      generalize hea : x.ea = ea at *
      have HEA := hide hea
      clear zz1 zz2 hL2' hea HLE2
      go_loopw [3, 4] (fun v3 vk wr => ∃ (k : Nat) (S : List UInt8), k ≤ ne ∧ vk = .int .i64 k ∧ v3 = .string ⟨S.toArray⟩ ∧ Hid (S = L2 ++ entsb (m.ents.take k)) ∧ Hid (wr.heap[b]? = some (.cells (mg m x) 27) ∧ Bel W wr)) (fun _ vk _ => ne - (intOf vk).toNat)
      case atStart => exact ⟨0, L2, Nat.zero_le _, rfl, by rw [← unhide HL2']; exact congrArg Value.string (ba_ext (by simp)), hide (by simp [entsb]), HO⟩
      case round =>
        obtain ⟨k, S, hk, rfl, rfl, HS, HK⟩ := hrel
        have c9 : wr.cell? ⟨b, 9, none⟩ = some (.slice ea ne x.ec) := by have z := (Mb2.of (unhide HK).1).c9; rw [unhide HEA, unhide HNE] at z; exact z
        by_cases hlt : k < ne
        · have hkl : k < x.ls.length := by rw [unhide HLE]; exact hlt
          have hkm : k < m.ents.length := by rw [unhide HNE]; exact hlt
          have hkn : (k : Int) < ne := by omega
          obtain rfl := (unhide HG) (by omega)
          obtain ⟨r0, r1, r2, r3⟩ := EG_cell (unhide HR) k hkl
          have r0 := (unhide HK).2.cell r0
          have r1 := (unhide HK).2.cell r1
          have r2 := (unhide HK).2.cell r2
          have r3 := (unhide HK).2.cell r3
          have HC : Hid (∀ W', Bel W W' → Calls Tryz.prog 41 #[.agg (encG x.ls[k]).toArray] W' fun e w' => e = .returned (.string (entb x.ls[k].1)) ∧ Bel W' w') := hide ((unhide HEn) _ (List.getElem_mem hkl))
          have HT1 : Hid (entsb (m.ents.take (k + 1)) = entsb (m.ents.take k) ++ (entb x.ls[k].1).data.toList) := hide (by
            have e9 : m.ents[k] = x.ls[k].1 := by
              have z := unhide HBM
              have z2 : (x.ls.map (·.1))[k]? = m.ents[k]? := congrArg (fun l => l[k]?) z
              rw [List.getElem?_map, List.getElem?_eq_getElem hkl, List.getElem?_eq_getElem hkm] at z2
              exact (Option.some.inj z2).symm
            rw [List.take_add_one, List.getElem?_eq_getElem hkm, e9]
            simp [entsb])
          have zz : ¬ (9223372036854775807 < S.length + (entb x.ls[k].1).size) := by
            have z9 := (unhide HEk)
            have z3 := entsb_len (m.ents.take k) (fun e he => z9 e (List.mem_of_mem_take he))
            have z4 : (m.ents.take k).length ≤ 60 := by rw [List.length_take]; omega
            have z5 := Nat.mul_le_mul_left 11000000 z4
            have z6 := entb_len (z9 x.ls[k].1 (by rw [← unhide HBM]; exact List.mem_map.2 ⟨_, List.getElem_mem hkl, rfl⟩))
            rw [unhide HS, List.length_append]
            have z1 := unhide HL2l
            omega
          generalize x.ls[k] = y at *
          obtain ⟨⟨t, kd', d, mm⟩, ax, cx⟩ := y
          unfold encG at HC
          simp only at r0 r1 r2 r3 HC HT1 zz
          generalize entb ⟨t, kd', d, mm⟩ = eb at *
          generalize mm.length = nm at *
          have HB := hide (unhide HK).2
          clear HEn HEk HG HR HLE HBM HQ HN HI HT HEA
          go_wp2_with (first
            | (go_at_call 41; refine ((unhide HC) _ (unhide HB)).mono ?_; rintro e w9 ⟨rfl, hb9⟩; replace HK := hide (And.intro (hb9.row (unhide HK).1) ((unhide HK).2.trans hb9)); clear hb9 c9 r0 r1 r2 r3))
          go_roundw
          case rel => exact ⟨k + 1, S ++ eb.data.toList, by omega, by go_num, congrArg Value.string (ba_ext (by simp)), hide (by rw [unhide HT1, unhide HS, List.append_assoc]), HK⟩
          case measure => simp [intOf]; omega
        · obtain rfl : k = ne := by omega
          have hkk : ¬ ((k : Int) < (k : Int)) := Int.lt_irrefl _
          have HS2 : Hid (S = L2 ++ entsb m.ents) := hide (by rw [unhide HS, List.take_of_length_le (by rw [unhide HNE]; omega)])
          have y1 : ¬ (9223372036854775807 < S.length + (idb m.mem).length) := by
            have z1 := unhide HL2l
            have z2 := (unhide HQ).2.1
            have z4 := Nat.mul_le_mul_left 11000000 hn60
            have z5 := (unhide HQ).2.2.1
            have z6 := (unhide HQ).2.2.2.2.2.1
            rw [unhide HS2, List.length_append]
            omega
          have y2 : ¬ (9223372036854775807 < S.length + (idb m.mem).length + (ctx m.snap).size) := by
            have z1 := unhide HL2l
            have z2 := (unhide HQ).2.1
            have z4 := Nat.mul_le_mul_left 11000000 hn60
            have z5 := (unhide HQ).2.2.1
            have z6 := (unhide HQ).2.2.2.2.2.1
            have z7 := (unhide HQ).2.2.2.1
            have z8 := (unhide HQ).2.2.2.2.2.2
            rw [unhide HS2, List.length_append]
            omega
          clear HS HQ HL2l HEn HEk HG HR HLE HBM HEA HN
          go_wp2_with fail
          rename_i QQ2 KK2 hKK2
          have hrow2 := (unhide HK).1
          have hbel2 := (unhide HK).2
          generalize hI : idb m.mem = I at *
          generalize hX : ctx m.snap = X at *
          refine rg_mn (fun i v w => match i with
            | 0 => v = .string ⟨S.toArray⟩
            | 1 => v = .pointer (some ⟨b, 10, none⟩)
            | 2 => v = .slice x.ma m.mem.length x.mc
            | 3 => v = .string ⟨I.toArray⟩
            | 4 => v = .string (⟨S.toArray⟩ ++ ⟨I.toArray⟩)
            | 5 => v = .pointer (some ⟨b, 11, none⟩)
            | 6 => v = .string m.snap
            | 7 => v = .string X
            | 8 => v = .string ((⟨S.toArray⟩ ++ ⟨I.toArray⟩) ++ X)
            | 9 => v = .string ((⟨S.toArray⟩ ++ ⟨I.toArray⟩) ++ X)
            | _ => True) [67, 68, 69, 70, 71, 72, 73, 74, 75, 2] Tryz.follows2 ?mono (by decide) (by kernel_rfl) (by kernel_rfl) (by simp) ?step ?fin
          case mono =>
            intro i v w w' hv hb
            match i, hv with
            | 0, hv => exact hv
            | 1, hv => exact hv
            | 2, hv => exact hv
            | 3, hv => exact hv
            | 4, hv => exact hv
            | 5, hv => exact hv
            | 6, hv => exact hv
            | 7, hv => exact hv
            | 8, hv => exact hv
            | 9, hv => exact hv
            | n + 10, _ => trivial
          case step =>
            intro i o ho a w hb hsame hdep
            have e1' : a.eval (.tmp 1) = .pointer (some ⟨b, 0, none⟩) := ev_old (hsame 1 (by decide))
            have e3' : a.eval (.tmp 3) = .string ⟨S.toArray⟩ := ev_old (hsame 3 (by decide))
            have c10 := (Mb2.of (hb.row hrow2)).c10
            have c11 := (Mb2.of (hb.row hrow2)).c11
            match i, ho with
            | 0, ho =>
              cases (show some (_ : Oper) = some o from ho)
              exact Or.inl ⟨_, w, by go_simp, Bel.refl _, rfl⟩
            | 1, ho =>
              cases (show some (_ : Oper) = some o from ho)
              exact Or.inl ⟨_, w, by go_simp, Bel.refl _, rfl⟩
            | 2, ho =>
              cases (show some (_ : Oper) = some o from ho)
              have hh0 : a.tmps[68]?.getD undef = .pointer (some ⟨b, 10, none⟩) := tm (hdep ⟨1, .data⟩ (by simp) rfl)
              exact Or.inl ⟨_, w, by go_simp, Bel.refl _, rfl⟩
            | 3, ho =>
              cases (show some (_ : Oper) = some o from ho)
              have hh0 : a.tmps[69]?.getD undef = .slice x.ma m.mem.length x.mc := tm (hdep ⟨2, .data⟩ (by simp) rfl)
              exact Or.inr ⟨_, _, _, by go_simp, (unhide HI) w (hbel2.trans hb), fun _ _ ⟨he, hb'⟩ => ⟨_, he, hb', rfl⟩⟩
            | 4, ho =>
              cases (show some (_ : Oper) = some o from ho)
              have hh0 : a.tmps[67]?.getD undef = .string ⟨S.toArray⟩ := tm (hdep ⟨0, .data⟩ (by simp) rfl)
              have hh1 : a.tmps[70]?.getD undef = .string ⟨I.toArray⟩ := tm (hdep ⟨3, .data⟩ (by simp) rfl)
              exact Or.inl ⟨_, w, by go_simp, Bel.refl _, rfl⟩
            | 5, ho =>
              cases (show some (_ : Oper) = some o from ho)
              exact Or.inl ⟨_, w, by go_simp, Bel.refl _, rfl⟩
            | 6, ho =>
              cases (show some (_ : Oper) = some o from ho)
              have hh0 : a.tmps[72]?.getD undef = .pointer (some ⟨b, 11, none⟩) := tm (hdep ⟨5, .data⟩ (by simp) rfl)
              exact Or.inl ⟨_, w, by go_simp, Bel.refl _, rfl⟩
            | 7, ho =>
              cases (show some (_ : Oper) = some o from ho)
              have hh0 : a.tmps[73]?.getD undef = .string m.snap := tm (hdep ⟨6, .data⟩ (by simp) rfl)
              exact Or.inr ⟨_, _, _, by go_simp, (unhide HT) w, fun _ _ ⟨he, hb'⟩ => ⟨_, he, hb', rfl⟩⟩
            | 8, ho =>
              cases (show some (_ : Oper) = some o from ho)
              have hh0 : a.tmps[71]?.getD undef = .string (⟨S.toArray⟩ ++ ⟨I.toArray⟩) := tm (hdep ⟨4, .data⟩ (by simp) rfl)
              have hh1 : a.tmps[74]?.getD undef = .string X := tm (hdep ⟨7, .data⟩ (by simp) rfl)
              exact Or.inl ⟨_, w, by go_simp, Bel.refl _, rfl⟩
            | 9, ho =>
              cases (show some (_ : Oper) = some o from ho)
              have hh0 : a.tmps[75]?.getD undef = .string ((⟨S.toArray⟩ ++ ⟨I.toArray⟩) ++ X) := tm (hdep ⟨8, .data⟩ (by simp) rfl)
              exact Or.inl ⟨_, w, by go_simp, Bel.refl _, rfl⟩
            | n + 10, ho => simp at ho
          case fin =>
            intro a w hb hsz hdf hsame hv
            have h2 : a.tmps.getD 2 undef = .string ((⟨S.toArray⟩ ++ ⟨I.toArray⟩) ++ X) := hv 9 (by decide)
            refine hKK2 _ _ ?_
            go_wp2_with fail
            refine bodyPost_ret (results_tmp rfl _ _ _) hdf ⟨(congrArg Ending.returned h2).trans ?_, hbel2.trans hb⟩
            refine congrArg (fun q => Ending.returned (Value.string q)) (ba_ext ?_)
            rw [unhide HS2, ← unhide HL2', unhide HL2]
            simp [unhide HNE]
    · rw [hok] at c8
      have zz1 : ¬ (9223372036854775807 < L1.length + 1) := by have := unhide HL3; omega
      have zz2 : ¬ (9223372036854775807 < L1.length + 1 + (num m.ents.length).length) := by have := unhide HL3; have := unhide HLE2; omega
      have c9 := (Mb2.of (unhide HO).1).c9
      generalize hne : m.ents.length = ne at *
      have HNE := hide hne
      clear hne
      go_wp2_with (first
        | (go_at_call 40; refine ((unhide HN) _ HNe _).mono ?_; rintro e w7 ⟨rfl, hb7⟩; replace HO := hide (And.intro (hb7.row (unhide HO).1) ((unhide HO).2.trans hb7)); clear hb7 c9 c8))
      generalize hL2' : L1 ++ [1] ++ num ne = L2 at *
      have HL2' := hide hL2'
      have HL2l : Hid (L2.length ≤ 80) := hide (by rw [← unhide HL2', List.length_append, List.length_append, List.length_singleton]; have := unhide HL3; have := unhide HLE2; omega)
      have hn60 : ne ≤ 60 := (unhide HQ).2.2.2.2.1
      generalize hea : x.ea = ea at *
      have HEA := hide hea
      clear zz1 zz2 hL2' hea HLE2
      go_loopw [3, 4] (fun v3 vk wr => ∃ (k : Nat) (S : List UInt8), k ≤ ne ∧ vk = .int .i64 k ∧ v3 = .string ⟨S.toArray⟩ ∧ Hid (S = L2 ++ entsb (m.ents.take k)) ∧ Hid (wr.heap[b]? = some (.cells (mg m x) 27) ∧ Bel W wr)) (fun _ vk _ => ne - (intOf vk).toNat)
      case atStart => exact ⟨0, L2, Nat.zero_le _, rfl, by rw [← unhide HL2']; exact congrArg Value.string (ba_ext (by simp)), hide (by simp [entsb]), HO⟩
      case round =>
        obtain ⟨k, S, hk, rfl, rfl, HS, HK⟩ := hrel
        have c9 : wr.cell? ⟨b, 9, none⟩ = some (.slice ea ne x.ec) := by have z := (Mb2.of (unhide HK).1).c9; rw [unhide HEA, unhide HNE] at z; exact z
        by_cases hlt : k < ne
        · have hkl : k < x.ls.length := by rw [unhide HLE]; exact hlt
          have hkm : k < m.ents.length := by rw [unhide HNE]; exact hlt
          have hkn : (k : Int) < ne := by omega
          obtain rfl := (unhide HG) (by omega)
          obtain ⟨r0, r1, r2, r3⟩ := EG_cell (unhide HR) k hkl
          have r0 := (unhide HK).2.cell r0
          have r1 := (unhide HK).2.cell r1
          have r2 := (unhide HK).2.cell r2
          have r3 := (unhide HK).2.cell r3
          have HC : Hid (∀ W', Bel W W' → Calls Tryz.prog 41 #[.agg (encG x.ls[k]).toArray] W' fun e w' => e = .returned (.string (entb x.ls[k].1)) ∧ Bel W' w') := hide ((unhide HEn) _ (List.getElem_mem hkl))
          have HT1 : Hid (entsb (m.ents.take (k + 1)) = entsb (m.ents.take k) ++ (entb x.ls[k].1).data.toList) := hide (by
            have e9 : m.ents[k] = x.ls[k].1 := by
              have z := unhide HBM
              have z2 : (x.ls.map (·.1))[k]? = m.ents[k]? := congrArg (fun l => l[k]?) z
              rw [List.getElem?_map, List.getElem?_eq_getElem hkl, List.getElem?_eq_getElem hkm] at z2
              exact (Option.some.inj z2).symm
            rw [List.take_add_one, List.getElem?_eq_getElem hkm, e9]
            simp [entsb])
          have zz : ¬ (9223372036854775807 < S.length + (entb x.ls[k].1).size) := by
            have z9 := (unhide HEk)
            have z3 := entsb_len (m.ents.take k) (fun e he => z9 e (List.mem_of_mem_take he))
            have z4 : (m.ents.take k).length ≤ 60 := by rw [List.length_take]; omega
            have z5 := Nat.mul_le_mul_left 11000000 z4
            have z6 := entb_len (z9 x.ls[k].1 (by rw [← unhide HBM]; exact List.mem_map.2 ⟨_, List.getElem_mem hkl, rfl⟩))
            rw [unhide HS, List.length_append]
            have z1 := unhide HL2l
            omega
          generalize x.ls[k] = y at *
          obtain ⟨⟨t, kd', d, mm⟩, ax, cx⟩ := y
          unfold encG at HC
          simp only at r0 r1 r2 r3 HC HT1 zz
          generalize entb ⟨t, kd', d, mm⟩ = eb at *
          generalize mm.length = nm at *
          have HB := hide (unhide HK).2
          clear HEn HEk HG HR HLE HBM HQ HN HI HT HEA
          go_wp2_with (first
            | (go_at_call 41; refine ((unhide HC) _ (unhide HB)).mono ?_; rintro e w9 ⟨rfl, hb9⟩; replace HK := hide (And.intro (hb9.row (unhide HK).1) ((unhide HK).2.trans hb9)); clear hb9 c9 r0 r1 r2 r3))
          go_roundw
          case rel => exact ⟨k + 1, S ++ eb.data.toList, by omega, by go_num, congrArg Value.string (ba_ext (by simp)), hide (by rw [unhide HT1, unhide HS, List.append_assoc]), HK⟩
          case measure => simp [intOf]; omega
        · obtain rfl : k = ne := by omega
          have hkk : ¬ ((k : Int) < (k : Int)) := Int.lt_irrefl _
          have HS2 : Hid (S = L2 ++ entsb m.ents) := hide (by rw [unhide HS, List.take_of_length_le (by rw [unhide HNE]; omega)])
          have y1 : ¬ (9223372036854775807 < S.length + (idb m.mem).length) := by
            have z1 := unhide HL2l
            have z2 := (unhide HQ).2.1
            have z4 := Nat.mul_le_mul_left 11000000 hn60
            have z5 := (unhide HQ).2.2.1
            have z6 := (unhide HQ).2.2.2.2.2.1
            rw [unhide HS2, List.length_append]
            omega
          have y2 : ¬ (9223372036854775807 < S.length + (idb m.mem).length + (ctx m.snap).size) := by
            have z1 := unhide HL2l
            have z2 := (unhide HQ).2.1
            have z4 := Nat.mul_le_mul_left 11000000 hn60
            have z5 := (unhide HQ).2.2.1
            have z6 := (unhide HQ).2.2.2.2.2.1
            have z7 := (unhide HQ).2.2.2.1
            have z8 := (unhide HQ).2.2.2.2.2.2
            rw [unhide HS2, List.length_append]
            omega
          clear HS HQ HL2l HEn HEk HG HR HLE HBM HEA HN
          go_wp2_with fail
          rename_i QQ2 KK2 hKK2
          have hrow2 := (unhide HK).1
          have hbel2 := (unhide HK).2
          generalize hI : idb m.mem = I at *
          generalize hX : ctx m.snap = X at *
          refine rg_mn (fun i v w => match i with
            | 0 => v = .string ⟨S.toArray⟩
            | 1 => v = .pointer (some ⟨b, 10, none⟩)
            | 2 => v = .slice x.ma m.mem.length x.mc
            | 3 => v = .string ⟨I.toArray⟩
            | 4 => v = .string (⟨S.toArray⟩ ++ ⟨I.toArray⟩)
            | 5 => v = .pointer (some ⟨b, 11, none⟩)
            | 6 => v = .string m.snap
            | 7 => v = .string X
            | 8 => v = .string ((⟨S.toArray⟩ ++ ⟨I.toArray⟩) ++ X)
            | 9 => v = .string ((⟨S.toArray⟩ ++ ⟨I.toArray⟩) ++ X)
            | _ => True) [67, 68, 69, 70, 71, 72, 73, 74, 75, 2] Tryz.follows2 ?mono (by decide) (by kernel_rfl) (by kernel_rfl) (by simp) ?step ?fin
          case mono =>
            intro i v w w' hv hb
            match i, hv with
            | 0, hv => exact hv
            | 1, hv => exact hv
            | 2, hv => exact hv
            | 3, hv => exact hv
            | 4, hv => exact hv
            | 5, hv => exact hv
            | 6, hv => exact hv
            | 7, hv => exact hv
            | 8, hv => exact hv
            | 9, hv => exact hv
            | n + 10, _ => trivial
          case step =>
            intro i o ho a w hb hsame hdep
            have e1' : a.eval (.tmp 1) = .pointer (some ⟨b, 0, none⟩) := ev_old (hsame 1 (by decide))
            have e3' : a.eval (.tmp 3) = .string ⟨S.toArray⟩ := ev_old (hsame 3 (by decide))
            have c10 := (Mb2.of (hb.row hrow2)).c10
            have c11 := (Mb2.of (hb.row hrow2)).c11
            match i, ho with
            | 0, ho =>
              cases (show some (_ : Oper) = some o from ho)
              exact Or.inl ⟨_, w, by go_simp, Bel.refl _, rfl⟩
            | 1, ho =>
              cases (show some (_ : Oper) = some o from ho)
              exact Or.inl ⟨_, w, by go_simp, Bel.refl _, rfl⟩
            | 2, ho =>
              cases (show some (_ : Oper) = some o from ho)
              have hh0 : a.tmps[68]?.getD undef = .pointer (some ⟨b, 10, none⟩) := tm (hdep ⟨1, .data⟩ (by simp) rfl)
              exact Or.inl ⟨_, w, by go_simp, Bel.refl _, rfl⟩
            | 3, ho =>
              cases (show some (_ : Oper) = some o from ho)
              have hh0 : a.tmps[69]?.getD undef = .slice x.ma m.mem.length x.mc := tm (hdep ⟨2, .data⟩ (by simp) rfl)
              exact Or.inr ⟨_, _, _, by go_simp, (unhide HI) w (hbel2.trans hb), fun _ _ ⟨he, hb'⟩ => ⟨_, he, hb', rfl⟩⟩
            | 4, ho =>
              cases (show some (_ : Oper) = some o from ho)
              have hh0 : a.tmps[67]?.getD undef = .string ⟨S.toArray⟩ := tm (hdep ⟨0, .data⟩ (by simp) rfl)
              have hh1 : a.tmps[70]?.getD undef = .string ⟨I.toArray⟩ := tm (hdep ⟨3, .data⟩ (by simp) rfl)
              exact Or.inl ⟨_, w, by go_simp, Bel.refl _, rfl⟩
            | 5, ho =>
              cases (show some (_ : Oper) = some o from ho)
              exact Or.inl ⟨_, w, by go_simp, Bel.refl _, rfl⟩
            | 6, ho =>
              cases (show some (_ : Oper) = some o from ho)
              have hh0 : a.tmps[72]?.getD undef = .pointer (some ⟨b, 11, none⟩) := tm (hdep ⟨5, .data⟩ (by simp) rfl)
              exact Or.inl ⟨_, w, by go_simp, Bel.refl _, rfl⟩
            | 7, ho =>
              cases (show some (_ : Oper) = some o from ho)
              have hh0 : a.tmps[73]?.getD undef = .string m.snap := tm (hdep ⟨6, .data⟩ (by simp) rfl)
              exact Or.inr ⟨_, _, _, by go_simp, (unhide HT) w, fun _ _ ⟨he, hb'⟩ => ⟨_, he, hb', rfl⟩⟩
            | 8, ho =>
              cases (show some (_ : Oper) = some o from ho)
              have hh0 : a.tmps[71]?.getD undef = .string (⟨S.toArray⟩ ++ ⟨I.toArray⟩) := tm (hdep ⟨4, .data⟩ (by simp) rfl)
              have hh1 : a.tmps[74]?.getD undef = .string X := tm (hdep ⟨7, .data⟩ (by simp) rfl)
              exact Or.inl ⟨_, w, by go_simp, Bel.refl _, rfl⟩
            | 9, ho =>
              cases (show some (_ : Oper) = some o from ho)
              have hh0 : a.tmps[75]?.getD undef = .string ((⟨S.toArray⟩ ++ ⟨I.toArray⟩) ++ X) := tm (hdep ⟨8, .data⟩ (by simp) rfl)
              exact Or.inl ⟨_, w, by go_simp, Bel.refl _, rfl⟩
            | n + 10, ho => simp at ho
          case fin =>
            intro a w hb hsz hdf hsame hv
            have h2 : a.tmps.getD 2 undef = .string ((⟨S.toArray⟩ ++ ⟨I.toArray⟩) ++ X) := hv 9 (by decide)
            refine hKK2 _ _ ?_
            go_wp2_with fail
            refine bodyPost_ret (results_tmp rfl _ _ _) hdf ⟨(congrArg Ending.returned h2).trans ?_, hbel2.trans hb⟩
            refine congrArg (fun q => Ending.returned (Value.string q)) (ba_ext ?_)
            rw [unhide HS2, ← unhide HL2', unhide HL2]
            simp [unhide HNE]
end Go.Proofs.YtgofdkheffoilaaGreat
