/- What may be, as the document says it: plain; lists that are held against none. -/
import Derived.Test.YtgofdkheffoilaaGreatPle
import Derived.Test.YtgofdkheffoilaaGreatDso
import Derived.Test.YtgofdkheffoilaaGreatDem
namespace Go.Proofs.YtgofdkheffoilaaGreat
open Go.RowKit Go.Maps
/-- The document's first test of a message. -/
def headD (m : GM) : Bool := idB m.frm && idB m.to && !(m.frm == m.to) && !(m.term == 0) && decide (m.term ≤ 4611686018427387904) && decide (m.round ≤ 4611686018427387904) && decide (m.index ≤ 4611686018427387904) && decide (m.lterm ≤ m.term)
theorem head_of {m : GM} (h : mayMB m = true) : headD m = true ∧ 0 < m.kind ∧ m.kind ≤ 5 := by
  unfold mayMB at h
  simp only [Bool.and_eq_true] at h
  obtain ⟨⟨⟨hh, hp⟩, _⟩, _⟩ := h
  unfold headB at hh
  simp only [Bool.and_eq_true, decide_eq_true_eq, bne_iff_ne] at hh
  obtain ⟨⟨⟨⟨⟨⟨k1, k2⟩, hf⟩, ht⟩, hne⟩, te1⟩, te2⟩ := hh
  have hplace : m.index ≤ 4611686018427387904 ∧ m.round ≤ 4611686018427387904 ∧ m.lterm ≤ m.term := by
    unfold placeB at hp
    split at hp
    · simp at hp
    · rename_i hq
      simp only [Bool.or_eq_true, decide_eq_true_eq, not_or] at hq
      omega
  refine ⟨?_, k1, k2⟩
  unfold headD
  rw [hf, ht]
  simp only [Bool.and_eq_true, Bool.not_eq_true', beq_eq_false_iff_ne, decide_eq_true_eq, Bool.true_and]
  exact ⟨⟨⟨⟨⟨hne, by omega⟩, te2⟩, hplace.2.1⟩, hplace.1⟩, hplace.2.2⟩
theorem may_of_head {m : GM} (n : Nn m) (hh : headD m = true) (k1 : 0 < m.kind) (k2 : m.kind ≤ 5) : mayMB m = (((if m.kind == 1 || m.kind == 3 then ((m.index == 0) == (m.lterm == 0)) else if m.kind == 5 then decide (0 < m.index) && decide (0 < m.lterm) else true) && listsB m) && emptyB (unm m)) := by
  unfold headD at hh
  simp only [Bool.and_eq_true, Bool.not_eq_true', beq_eq_false_iff_ne, decide_eq_true_eq] at hh
  obtain ⟨⟨⟨⟨⟨⟨⟨hf, ht⟩, hne⟩, te1⟩, te2⟩, hr⟩, hi⟩, hl⟩ := hh
  have t0 := n.term
  have hB : headB m = true := by
    unfold headB
    rw [hf, ht]
    simp only [Bool.and_eq_true, decide_eq_true_eq, bne_iff_ne, Bool.and_true]
    exact ⟨⟨⟨⟨k1, k2⟩, hne⟩, by omega⟩, te2⟩
  have hP : placeB m = (if m.kind == 1 || m.kind == 3 then ((m.index == 0) == (m.lterm == 0)) else if m.kind == 5 then decide (0 < m.index) && decide (0 < m.lterm) else true) := by
    unfold placeB
    rw [if_neg]
    simp only [Bool.or_eq_true, decide_eq_true_eq, not_or]
    omega
  unfold mayMB
  rw [hB, hP]
  simp only [Bool.true_and]
theorem snap0 (s : ByteArray) : s.toList.isEmpty = decide ((⟨#[]⟩ : ByteArray) = s) := by
  rw [beq_empty]
  have : ((⟨#[]⟩ : ByteArray) = s) = (s.size = 0) := propext ⟨fun h => by rw [← h]; rfl, fun h => ((ba_zero s).2 h).symm⟩
  simp only [this]
theorem bz (i : Int) : (i == 0) = ((0 : Int) == i) := Bool.eq_iff_iff.2 (by simp only [beq_iff_eq]; exact eq_comm)
def x1 (m : GM) : GM := ⟨m.kind, m.frm, m.to, m.term, m.index, m.lterm, 0, 0, false, [], [], ⟨#[]⟩⟩
def x2 (m : GM) : GM := ⟨m.kind, m.frm, m.to, m.term, 0, 0, 0, 0, m.ok, [], [], ⟨#[]⟩⟩
def x3 (m : GM) : GM := ⟨m.kind, m.frm, m.to, m.term, m.index, m.lterm, m.commit, m.round, false, m.ents, [], ⟨#[]⟩⟩
def x4 (m : GM) : GM := ⟨m.kind, m.frm, m.to, m.term, m.index, 0, 0, m.round, m.ok, [], [], ⟨#[]⟩⟩
def x5 (m : GM) : GM := ⟨m.kind, m.frm, m.to, m.term, m.index, m.lterm, 0, m.round, false, [], m.mem, m.snap⟩
theorem em1 {m : GM} (hk : m.kind = 1) : emptyB (unm m) = (hdS (x1 m) m && decide (m.ents.length = 0) && decide (([] : List Int) = m.mem) && decide ((⟨#[]⟩ : ByteArray) = m.snap)) := by
  unfold emptyB unm hdS x1
  simp [hk, ← snap0, bz]
theorem em2 {m : GM} (hk : m.kind = 2) : emptyB (unm m) = (hdS (x2 m) m && decide (m.ents.length = 0) && decide (([] : List Int) = m.mem) && decide ((⟨#[]⟩ : ByteArray) = m.snap)) := by
  unfold emptyB unm hdS x2
  simp [hk, ← snap0, bz]
theorem em3 {m : GM} (hk : m.kind = 3) : emptyB (unm m) = (hdS (x3 m) m && true && decide (([] : List Int) = m.mem) && decide ((⟨#[]⟩ : ByteArray) = m.snap)) := by
  unfold emptyB unm hdS x3
  simp [hk, ← snap0]
theorem em4 {m : GM} (hk : m.kind = 4) : emptyB (unm m) = (hdS (x4 m) m && decide (m.ents.length = 0) && decide (([] : List Int) = m.mem) && decide ((⟨#[]⟩ : ByteArray) = m.snap)) := by
  unfold emptyB unm hdS x4
  simp [hk, ← snap0, bz]
theorem em5 {m : GM} (hk : m.kind = 5) : emptyB (unm m) = (hdS (x5 m) m && decide (m.ents.length = 0) && decide (m.mem = m.mem) && decide (m.snap = m.snap)) := by
  unfold emptyB unm hdS x5
  simp [hk, bz]
theorem sameEnts_nil {W : World} {m : GM} {x : GX} (h : Gw W m x) : Calls Tryz.prog 35 #[.slice none 0 0, .slice x.ea m.ents.length x.ec] W fun e w' => e = .returned (.bool (decide (m.ents.length = 0))) ∧ ∃ q, w' = W.drewN q := by
  by_cases h0 : m.ents.length = 0
  · rw [decide_eq_true h0, h0]
    have hl : x.ls = [] := by
      have := h.e
      rw [List.eq_nil_of_length_eq_zero h0] at this
      exact List.map_eq_nil_iff.1 this
    have z := sameEnts_yes (W := W) (a := none) (b := x.ea) (l := []) (k := x.ls) (Sl.nil _ _ _) h.l (fun x hx => by simp at hx) h.g (by rw [hl]) 0 x.ec (by simp) (fun x hx => by simp at hx)
    exact z
  · rw [decide_eq_false h0]
    exact sameEnts_no 0 m.ents.length 0 x.ec (fun e => h0 e.symm)
theorem sameEnts_self {W : World} {m : GM} {x : GX} (h : Gw W m x) (hl : m.ents.length ≤ 1048576) (hq : ∀ y ∈ x.ls, y.1.m.length ≤ 1048576) : Calls Tryz.prog 35 #[.slice x.ea m.ents.length x.ec, .slice x.ea m.ents.length x.ec] W fun e w' => e = .returned (.bool true) ∧ ∃ q, w' = W.drewN q := by
  have hln : x.ls.length = m.ents.length := by rw [← h.e, List.length_map]
  have z := sameEnts_yes (W := W) (a := x.ea) (b := x.ea) (l := x.ls) (k := x.ls) h.l h.l h.g h.g rfl x.ec x.ec (by omega) (fun y hy => by have := hq y hy; omega)
  rw [hln] at z
  exact z
theorem sm1 {W : World} {m : GM} {x : GX} (g : Gw W m x) (hk : m.kind = 1) : Calls Tryz.prog 9 #[.agg (mg (x1 m) gzx), .agg (mg m x)] W fun e w' => e = .returned (.bool (emptyB (unm m))) ∧ Bel W w' := by
  rw [em1 hk]
  exact sameMsg_any (m := x1 m) (k := m) (x := gzx) (y := x) (decide (m.ents.length = 0)) (decide (([] : List Int) = m.mem)) (beq_self_eq_true _) (beq_self_eq_true _) (beq_self_eq_true _) (beq_self_eq_true _) (fun W' hb => sameEnts_nil (g.bel hb)) (fun W' hb => sameInts_any (Sl.nil _ _ _) (g.bel hb).m 0 x.mc (by simp))
theorem sm2 {W : World} {m : GM} {x : GX} (g : Gw W m x) (hk : m.kind = 2) : Calls Tryz.prog 9 #[.agg (mg (x2 m) gzx), .agg (mg m x)] W fun e w' => e = .returned (.bool (emptyB (unm m))) ∧ Bel W w' := by
  rw [em2 hk]
  exact sameMsg_any (m := x2 m) (k := m) (x := gzx) (y := x) (decide (m.ents.length = 0)) (decide (([] : List Int) = m.mem)) (beq_self_eq_true _) (beq_self_eq_true _) (beq_self_eq_true _) (beq_self_eq_true _) (fun W' hb => sameEnts_nil (g.bel hb)) (fun W' hb => sameInts_any (Sl.nil _ _ _) (g.bel hb).m 0 x.mc (by simp))
theorem sm4 {W : World} {m : GM} {x : GX} (g : Gw W m x) (hk : m.kind = 4) : Calls Tryz.prog 9 #[.agg (mg (x4 m) gzx), .agg (mg m x)] W fun e w' => e = .returned (.bool (emptyB (unm m))) ∧ Bel W w' := by
  rw [em4 hk]
  exact sameMsg_any (m := x4 m) (k := m) (x := gzx) (y := x) (decide (m.ents.length = 0)) (decide (([] : List Int) = m.mem)) (beq_self_eq_true _) (beq_self_eq_true _) (beq_self_eq_true _) (beq_self_eq_true _) (fun W' hb => sameEnts_nil (g.bel hb)) (fun W' hb => sameInts_any (Sl.nil _ _ _) (g.bel hb).m 0 x.mc (by simp))
theorem sm3 {W : World} {m : GM} {x : GX} (g : Gw W m x) (hk : m.kind = 3) (hl : m.ents.length ≤ 1048576) (hq : ∀ y ∈ x.ls, y.1.m.length ≤ 1048576) : Calls Tryz.prog 9 #[.agg (mg (x3 m) ⟨x.ea, x.ec, x.ls, none, 0⟩), .agg (mg m x)] W fun e w' => e = .returned (.bool (emptyB (unm m))) ∧ Bel W w' := by
  rw [em3 hk]
  exact sameMsg_any (m := x3 m) (k := m) (x := ⟨x.ea, x.ec, x.ls, none, 0⟩) (y := x) true (decide (([] : List Int) = m.mem)) (beq_self_eq_true _) (beq_self_eq_true _) (beq_self_eq_true _) (beq_self_eq_true _) (fun W' hb => sameEnts_self (m := m) (x := x) (g.bel hb) hl hq) (fun W' hb => sameInts_any (Sl.nil _ _ _) (g.bel hb).m 0 x.mc (by simp))
theorem sm5 {W : World} {m : GM} {x : GX} (g : Gw W m x) (hk : m.kind = 5) (hm : m.mem.length ≤ 1048576) : Calls Tryz.prog 9 #[.agg (mg (x5 m) ⟨none, 0, [], x.ma, x.mc⟩), .agg (mg m x)] W fun e w' => e = .returned (.bool (emptyB (unm m))) ∧ Bel W w' := by
  rw [em5 hk]
  exact sameMsg_any (m := x5 m) (k := m) (x := ⟨none, 0, [], x.ma, x.mc⟩) (y := x) (decide (m.ents.length = 0)) (decide (m.mem = m.mem)) (beq_self_eq_true _) (beq_self_eq_true _) (beq_self_eq_true _) (beq_self_eq_true _) (fun W' hb => sameEnts_nil (g.bel hb)) (fun W' hb => sameInts_any (g.bel hb).m (g.bel hb).m x.mc x.mc (by omega))
end Go.Proofs.YtgofdkheffoilaaGreat
