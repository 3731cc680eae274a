/- MayMsg of the document; messages that are alike; Bytes. -/
import Derived.Test.YtgofdkheffoilaaGreatDmb
import Derived.Test.YtgofdkheffoilaaGreatDmc
import Derived.Test.YtgofdkheffoilaaGreatDmd
namespace Go.Proofs.YtgofdkheffoilaaGreat
open Go.RowKit Go.Maps
theorem maymsgD_any {W : World} {m : GM} {x : GX} (g : Gw W m x) (n : Nn m) (hl : m.ents.length ≤ 1048576) (hm : m.mem.length ≤ 1048576) (hq : ∀ y ∈ x.ls, y.1.m.length ≤ 1048576) : Calls Tryz.prog 10 #[.agg (mg m x)] W fun e w' => e = .returned (.bool (mayMB m)) ∧ Bel W w' := by
  have h0 : ∀ y ∈ x.ls, 0 ≤ y.1.k := fun y hy => (n.ee y.1 (by rw [← g.e]; exact List.mem_map.2 ⟨y, hy, rfl⟩)).2.1
  cases hh : headD m with
  | false =>
    refine mm_no hh ?_
    cases hb : mayMB m with
    | false => rfl
    | true => rw [(head_of hb).1] at hh; cases hh
  | true =>
    have hd := hh
    unfold headD at hd
    simp only [Bool.and_eq_true, Bool.not_eq_true', decide_eq_true_eq] at hd
    obtain ⟨⟨⟨⟨⟨⟨⟨h1, h2⟩, h3⟩, h4⟩, g5⟩, g6⟩, g7⟩, g8⟩ := hd
    have h5 : decide (4611686018427387904 < m.term) = false := decide_eq_false (by omega)
    have h6 : decide (4611686018427387904 < m.round) = false := decide_eq_false (by omega)
    have h7 : decide (4611686018427387904 < m.index) = false := decide_eq_false (by omega)
    have h8 : decide (m.term < m.lterm) = false := decide_eq_false (by omega)
    by_cases k1 : m.kind = 1
    · exact mm_1 g hl hq h0 h1 h2 h3 h4 h5 h6 h7 h8 k1 (by rw [k1]; rfl) (by rw [may_of_head n hh (by omega) (by omega)]; unfold listsB; simp [k1])
    by_cases k2 : m.kind = 2
    · exact mm_2 g hl hq h0 h1 h2 h3 h4 h5 h6 h7 h8 k2 (by rw [k2]; rfl) (by rw [k2]; rfl) (by rw [k2]; rfl) (by rw [may_of_head n hh (by omega) (by omega)]; unfold listsB; simp [k2])
    by_cases k3 : m.kind = 3
    · exact mm_3 g hl hq h0 h1 h2 h3 h4 h5 h6 h7 h8 k3 (by rw [k3]; rfl) (by rw [k3]; rfl) (by rw [k3]; rfl) (by rw [may_of_head n hh (by omega) (by omega)]; unfold listsB; simp [k3])
    by_cases k4 : m.kind = 4
    · exact mm_4 g hl hq h0 h1 h2 h3 h4 h5 h6 h7 h8 k4 (by rw [k4]; rfl) (by rw [k4]; rfl) (by rw [k4]; rfl) (by rw [k4]; rfl) (by rw [may_of_head n hh (by omega) (by omega)]; unfold listsB; simp [k4])
    by_cases k5 : m.kind = 5
    · exact mm_5 g hm h1 h2 h3 h4 h5 h6 h7 h8 k5 (by rw [k5]; rfl) (by rw [k5]; rfl) (by rw [k5]; rfl) (by rw [k5]; rfl) (by rw [k5]; rfl) (by rw [may_of_head n hh (by omega) (by omega)]; unfold listsB; simp [k5])
    refine mm_0 h1 h2 h3 h4 h5 h6 h7 h8 ?_ (beq_eq_false_iff_ne.2 k1) (beq_eq_false_iff_ne.2 k2) (beq_eq_false_iff_ne.2 k3) (beq_eq_false_iff_ne.2 k4) (beq_eq_false_iff_ne.2 k5)
    cases hb : mayMB m with
    | false => rfl
    | true => have := (head_of hb).2; omega
/-- Messages that are alike are found so. -/
theorem same_equal {W : World} {m : GM} {x y : GX} (g : Gw W m x) (g2 : Gw W m y) (hl : m.ents.length ≤ 1048576) (hm : m.mem.length ≤ 1048576) (hq : ∀ e ∈ m.ents, e.m.length ≤ 1048576) : Calls Tryz.prog 9 #[.agg (mg m x), .agg (mg m y)] W fun e w' => e = .returned (.bool true) ∧ Bel W w' := by
  have hln : x.ls.length = m.ents.length := by rw [← g.e, List.length_map]
  have z := sameMsg_any (W := W) (m := m) (k := m) (x := x) (y := y) true (decide (m.mem = m.mem)) (beq_self_eq_true _) (beq_self_eq_true _) (beq_self_eq_true _) (beq_self_eq_true _) (fun W' hb => by
    have z := sameEnts_yes (g.bel hb).l (g2.bel hb).l (g.bel hb).g (g2.bel hb).g (by rw [g.e, g2.e]) x.ec y.ec (by omega) (fun q hq2 => by
      have := hq q.1 (by rw [← g.e]; exact List.mem_map.2 ⟨q, hq2, rfl⟩)
      omega)
    rw [hln] at z
    exact z) (fun W' hb => sameInts_any (g.bel hb).m (g2.bel hb).m x.mc y.mc (by omega))
  have e : (hdS m m && true && decide (m.mem = m.mem) && decide (m.snap = m.snap)) = true := by simp [hdS]
  rw [e] at z
  exact z
theorem eok_of {e : GE} (h : Ge e) : Eok e := ⟨h.t, ⟨h.k.1, by have := h.k.2; omega⟩, h.d, by have := h.m; omega, fun y hy => by have := h.y y hy; omega⟩
theorem bytesP_yes {W : World} {m : GM} {x : GX} (g : Gw W m x) (n : Nn m) (hq : ∀ y ∈ x.ls, y.1.m.length ≤ 1048576) (h : mayMB m = true) : Calls Tryz.prog 6 #[.agg (mg m x)] W fun e w' => e = .returned (.tuple #[.string ⟨(msgb m).toArray⟩, .int .i64 0]) ∧ Bel W w' := by
  have d := gd_of n h
  have d0 := d.kind
  have d1 := d.frm
  have d2 := d.to
  have d3 := d.term
  have d4 := d.index
  have d5 := d.lterm
  have d6 := d.commit
  have d7 := d.round
  have d8 := d.el
  have d9 := d.ml
  refine bytes_yes g m.kind.toNat m.frm.toNat m.to.toNat m.term.toNat m.index.toNat m.lterm.toNat m.commit.toNat m.round.toNat (by omega) (by omega) (by omega) (by omega) (by omega) (by omega) (by omega) (by omega) (by omega) (by omega) (by omega) (by omega) (by omega) (by omega) (by omega) (by omega) (by omega) (fun e he => eok_of (d.ee e he)) (by omega) (fun y hy => by have := d.me y hy; omega) d.sn (fun W' hb => ?_)
  have z := maymsg_any (g.bel hb) (by omega) (by omega) hq
  rw [h] at z
  exact z
theorem bytesP_no {W : World} {m : GM} {x : GX} (g : Gw W m x) (hl : m.ents.length ≤ 1048576) (hm : m.mem.length ≤ 1048576) (hq : ∀ y ∈ x.ls, y.1.m.length ≤ 1048576) (h : mayMB m = false) : Calls Tryz.prog 6 #[.agg (mg m x)] W fun e w' => e = .returned (.tuple #[.string ⟨#[]⟩, .int .i64 2]) ∧ Bel W w' := by
  refine bytes_no (fun W' hb => ?_)
  have z := maymsg_any (g.bel hb) hl hm hq
  rw [h] at z
  exact z
theorem bytesD_yes {W : World} {m : GM} {x : GX} (g : Gw W m x) (n : Nn m) (h : mayMB m = true) : Calls Tryz.prog 11 #[.agg (mg m x)] W fun e w' => e = .returned (.string ⟨(msgb m).toArray⟩) ∧ Bel W w' := by
  have d := gd_of n h
  have d0 := d.kind
  have d1 := d.frm
  have d2 := d.to
  have d3 := d.term
  have d4 := d.index
  have d5 := d.lterm
  have d6 := d.commit
  have d7 := d.round
  have d8 := d.el
  have d9 := d.ml
  exact refBytes_any g m.kind.toNat m.frm.toNat m.to.toNat m.term.toNat m.index.toNat m.lterm.toNat m.commit.toNat m.round.toNat (by omega) (by omega) (by omega) (by omega) (by omega) (by omega) (by omega) (by omega) (by omega) (by omega) (by omega) (by omega) (by omega) (by omega) (by omega) (by omega) (by omega) (fun e he => eok_of (d.ee e he)) (by omega) (fun y hy => by have := d.me y hy; omega) d.sn
/-- A message's bytes are not too many. -/
theorem msgb_size {m : GM} (n : Nn m) (h : mayMB m = true) : (⟨(msgb m).toArray⟩ : ByteArray).size ≤ 1000000000 := by
  have d := gd_of n h
  have d0 := d.kind
  have d1 := d.frm
  have d2 := d.to
  have d3 := d.term
  have d4 := d.index
  have d5 := d.lterm
  have d6 := d.commit
  have d7 := d.round
  have d8 := d.el
  have d9 := d.ml
  have hsz : (⟨(msgb m).toArray⟩ : ByteArray).size = (msgb m).length := by simp [ByteArray.size]
  have he := entsb_len m.ents (fun e he => eok_of (d.ee e he))
  have hi := idb_len m.mem (fun y hy => by have := d.me y hy; omega) (by omega)
  have hn := flat_len [m.frm.toNat, m.to.toNat, m.term.toNat, m.index.toNat, m.lterm.toNat, m.commit.toNat, m.round.toNat] (fun y hy => by
    simp at hy
    omega)
  have hc := ctx_len m.snap (by have := d.sn; omega)
  have hcl : (ctx m.snap).data.toList.length = (ctx m.snap).size := rfl
  have hnl := flat_len [m.ents.length] (fun y hy => by simp at hy; omega)
  have hsn := d.sn
  simp only [List.length_cons, List.length_nil, List.flatMap_cons, List.flatMap_nil, List.append_nil] at hn hnl
  rw [hsz]
  unfold msgb hdb
  simp only [List.length_append, List.length_cons, List.length_nil, List.flatMap_cons, List.flatMap_nil, List.append_nil] at hn ⊢
  omega
end Go.Proofs.YtgofdkheffoilaaGreat
