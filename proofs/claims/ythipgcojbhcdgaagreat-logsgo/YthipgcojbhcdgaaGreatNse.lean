/- Entries that are the same are told to be. How a group with logs stands in memory. Two entries that differ are told to. -/
import Derived.Test.YthipgcojbhcdgaaGreatLtt
namespace Go.Proofs.YthipgcojbhcdgaaGreat
open Go.RowKit Go.Maps Go.Sort
set_option maxRecDepth 100000 in
theorem sameI0 (W : World) : Calls Tryz.prog 34 #[.slice none 0 0, .slice none 0 0] W fun e w' => e = .returned (.bool true) ∧ w' = W := by
  go_enter Tryz.func34, Tryz.ntmps34
  go_wp2_with fail
  go_loopw [5] (fun vk wr => vk = .int .i64 0 ∧ wr = W) (fun vk _ => 0)
  case atStart => exact ⟨rfl, rfl⟩
  case round =>
    obtain ⟨rfl, rfl⟩ := hrel
    go_wp2_with fail
    go_ret
    exact ⟨rfl, rfl⟩
set_option maxRecDepth 100000 in
set_option maxHeartbeats 4000000 in
theorem samee_any {W : World} {a a2 : Option Addr} {l : List PE} {c c2 : Nat} (h : Sl E69 W a l) (h2 : Sl E69 W a2 l) (hl : l.length ≤ 1000000) : Calls Tryz.prog 33 #[.slice a l.length c, .slice a2 l.length c2] W fun e w' => e = .returned (.bool true) ∧ Bel W w' := by
  obtain ⟨g, off, hg, hR⟩ := h
  obtain ⟨g2, off2, hg2, hR2⟩ := h2
  have HS : Hid (∀ w : World, Calls Tryz.prog 34 #[.slice none 0 0, .slice none 0 0] w fun e w' => e = .returned (.bool true) ∧ Bel w w') := hide (fun w => (sameI0 w).mono (fun _ _ ⟨he, hw⟩ => ⟨he, by rw [hw]; exact Bel.refl _⟩))
  generalize hn : l.length = n at *
  have HN := hide hn
  have HG := hide hg
  have HR := hide hR
  have HG2 := hide hg2
  have HR2 := hide hR2
  clear hn hg hR hg2 hR2
  go_enter Tryz.func33, Tryz.ntmps33
  go_wp2_with fail
  go_loopw [5] (fun vk wr => ∃ (i : Nat), i ≤ n ∧ vk = .int .i64 i ∧ Hid (Bel W wr)) (fun vk _ => n - (intOf vk).toNat)
  case atStart => exact ⟨0, Nat.zero_le _, rfl, hide (Bel.refl _)⟩
  case round =>
    obtain ⟨i, hk, rfl, HB⟩ := hrel
    by_cases hlt : i < n
    · have hil : i < l.length := by rw [unhide HN]; exact hlt
      obtain rfl := (unhide HG) (by omega)
      obtain rfl := (unhide HG2) (by omega)
      have hkn : (i : Int) < n := by omega
      obtain ⟨r0, r1, r2, r3⟩ := E69_cell ((unhide HR).bel (unhide HB)) i hil
      obtain ⟨q0, q1, q2, q3⟩ := E69_cell ((unhide HR2).bel (unhide HB)) i hil
      generalize l[i].t = et at *
      generalize l[i].k = ek at *
      generalize l[i].d = ed at *
      have p0 : ∀ p : BelBy wr, p.W.cell? ⟨g, off + i * 4, none⟩ = some (.int .u64 et) := fun p => p.h.cell r0
      have p1 : ∀ p : BelBy wr, p.W.cell? ⟨g, off + i * 4 + 1, none⟩ = some (.int .u8 ek) := fun p => p.h.cell r1
      have p2 : ∀ p : BelBy wr, p.W.cell? ⟨g, off + i * 4 + 2, none⟩ = some (.string ed) := fun p => p.h.cell r2
      have p3 : ∀ p : BelBy wr, p.W.cell? ⟨g, off + i * 4 + 3, none⟩ = some (.slice none 0 0) := fun p => p.h.cell r3
      have s0 : ∀ p : BelBy wr, p.W.cell? ⟨g2, off2 + i * 4, none⟩ = some (.int .u64 et) := fun p => p.h.cell q0
      have s1 : ∀ p : BelBy wr, p.W.cell? ⟨g2, off2 + i * 4 + 1, none⟩ = some (.int .u8 ek) := fun p => p.h.cell q1
      have s2 : ∀ p : BelBy wr, p.W.cell? ⟨g2, off2 + i * 4 + 2, none⟩ = some (.string ed) := fun p => p.h.cell q2
      have s3 : ∀ p : BelBy wr, p.W.cell? ⟨g2, off2 + i * 4 + 3, none⟩ = some (.slice none 0 0) := fun p => p.h.cell q3
      have hne := BelBy.some wr
      have e0 : (et != et) = false := by simp
      have e1 : (ek != ek) = false := by simp
      clear r0 r1 r2 r3 q0 q1 q2 q3
      go_wp2_with fail
      refine wp_region_bel Tryz.follows (by kernel_rfl) ?_
      repeat (go_big_quiet_step (first | (go_at_call 34; refine calls_by ((unhide HS) _))))
      refine wpQuiet_nil ?_
      rintro W1 ⟨p9, rfl⟩
      have HB9 := hide ((unhide HB).trans p9.h)
      generalize p9.W = W9 at HB9 ⊢
      go_wp2_with fail
      go_roundw
      case rel => exact ⟨i + 1, by omega, by go_num, HB9⟩
      case measure => simp [intOf]; omega
    · obtain rfl : i = n := by omega
      go_wp2_with fail
      go_ret
      exact ⟨rfl, unhide HB⟩
end Go.Proofs.YthipgcojbhcdgaaGreat
namespace Go.Proofs.YthipgcojbhcdgaaGreat
open Go.RowKit Go.Maps Go.Sort
/-- The three lists of a group, in its box. -/
def gc (n gP cP : Nat) (vW vD : Value) : Array Value := #[.slice (some ⟨gP, 0, none⟩) n cP, vW, vD]
structure Gs (W : World) (n b gP cP : Nat) (vW vD : Value) (L : List (PP × Px)) (Q : List (QM × Option Addr × Nat)) (dn : List PE) (w : World) : Prop where
  box : w.heap[b]? = some (.cells (gc n gP cP vW vD) 51)
  row : (E32 n).O W.heap.size w (.slice (some ⟨gP, 0, none⟩) n cP) L
  pf : ∀ q ∈ L, Pg 0 w n q.1 q.2
  wo : E27q.O W.heap.size w vW Q
  we : ∀ q ∈ Q, E69.O 0 w (.slice q.2.1 q.1.ents.length q.2.2) q.1.ents
  dO : E69.O W.heap.size w vD dn
  dl : ∀ q ∈ L, ∀ k, (Value.slice q.2.aL q.1.log.length q.2.cL).ownBlock = some k → vD.ownBlock ≠ some k
  de : ∀ q ∈ Q, ∀ k, (Value.slice q.2.1 q.1.ents.length q.2.2).ownBlock = some k → vD.ownBlock ≠ some k
  bel : Bel W w
  ge : W.heap.size ≤ b
section
variable {W w w' w1 w2 : World} {n b gP cP : Nat} {vW vD vW' vD' : Value} {L : List (PP × Px)} {Q Q' O : List (QM × Option Addr × Nat)} {dn : List PE}
theorem Gs.len (h : Gs W n b gP cP vW vD L Q dn w) : L.length = n := by
  obtain ⟨a, c, g, e, _⟩ := h.row.shape
  injection e with _ e2
  exact e2.symm
theorem Gs.next (h : Gs W n b gP cP vW vD L Q dn w) (hb : Bel w w') : Gs W n b gP cP vW vD L Q dn w' :=
  ⟨hb.row h.box, h.row.bel hb, fun q hq => (h.pf q hq).bel hb, h.wo.bel hb, fun q hq => (h.we q hq).bel hb, h.dO.bel hb, h.dl, h.de, h.bel.trans hb, h.ge⟩
/-- What a member's row says of it. -/
theorem Gs.at (h : Gs W n b gP cP vW vD L Q dn w) {k : Nat} (hk : k < L.length) {s : PP} {x : Px} (e : L[k] = (s, x)) (c : Nat) (v : Value) (hv : (pc n s x)[c]? = some v) : w.cell? ⟨gP, k * 18 + c, none⟩ = some v := by
  have := h.row.range k hk c v (by rw [e]; simpa [E32] using hv)
  exact this
/-- A member has made its step: it is put in its place. -/
theorem Gs.put (h : Gs W n b gP cP vW vD L Q dn w) (hb : Bel w w1) {i : Nat} {s' : PP} {x' : Px} (hp : Pg w.heap.size w1 n s' x') (ho : (E32 n).O W.heap.size w2 (.slice (some ⟨gP, 0, none⟩) n cP) (L.set i (s', x'))) (hc : Ch (fun j => j = gP) w1 w2) : Gs W n b gP cP vW vD (L.set i (s', x')) Q dn w2 := by
  have h1 := h.next hb
  obtain ⟨cur, hcur⟩ := h1.row.block (k := gP) rfl
  have hlow := (h1.row.lt (k := gP) rfl).1
  have hcur : w1.heap[gP]? = some (.cells cur 56) := hcur
  refine ⟨hc.row h1.box (ne_kind h1.box hcur (by decide)), ho, fun q hq => ?_, h1.wo.box hcur (by decide) hc, fun q hq => (h1.we q hq).box hcur (by decide) hc, h1.dO.box hcur (by decide) hc, fun q hq k hk => ?_, h.de, bel_off h1.bel hc hlow, h.ge⟩
  · rcases List.mem_or_eq_of_mem_set hq with hq | rfl
    · exact (h1.pf q hq).box hcur hc
    · exact (hp.lowG (Nat.zero_le _)).box hcur hc
  · rcases List.mem_or_eq_of_mem_set hq with hq | rfl
    · exact h.dl q hq k hk
    · intro hd
      have l1 := (hp.l.lt hk).1
      have l2 := (h.dO.lt hd).2
      omega
/-- What is under way is another row. -/
theorem Gs.setW (h : Gs W n b gP cP vW vD L Q dn w) (hO : E27q.O W.heap.size w vW' Q') (he : ∀ q ∈ Q', q ∈ Q) (hr : w'.heap[b]? = some (.cells (gc n gP cP vW' vD) 51)) (hc : Ch (fun k => k = b) w w') : Gs W n b gP cP vW' vD L Q' dn w' := by
  refine ⟨hr, h.row.box h.box (show (56 : Nat) ≠ 51 by decide) hc, fun q hq => ?_, hO.box h.box (by decide) hc, fun q hq => (h.we q (he q hq)).box h.box (by decide) hc, h.dO.box h.box (by decide) hc, h.dl, fun q hq => h.de q (he q hq), bel_off h.bel hc h.ge, h.ge⟩
  have p := h.pf q hq
  exact ⟨p.m.box h.box (by decide) hc, p.b.box h.box (by decide) hc, p.l.box h.box (by decide) hc, p.v.box h.box (by decide) hc, p.f.box h.box (by decide) hc⟩
/-- What was sent is on its way. -/
theorem Gs.joinW (h : Gs W n b gP cP vW vD L Q dn w) (he : ∀ q ∈ O, E69.O 0 w (.slice q.2.1 q.1.ents.length q.2.2) q.1.ents) (hde : ∀ q ∈ O, ∀ k, (Value.slice q.2.1 q.1.ents.length q.2.2).ownBlock = some k → vD.ownBlock ≠ some k) (hO : E27q.O W.heap.size w1 vW' (Q ++ O)) (hg : w.grownBy w1 vW.ownBlock) (hr : w2.heap[b]? = some (.cells (gc n gP cP vW' vD) 51)) (hc : Ch (fun k => k = b) w1 w2) : Gs W n b gP cP vW' vD L (Q ++ O) dn w2 := by
  have hbx := row_grown h.box h.wo hg (by decide)
  refine ⟨hr, (h.row.grown h.wo hg (show (56 : Nat) ≠ 27 by decide)).box hbx (show (56 : Nat) ≠ 51 by decide) hc, fun q hq => ?_, hO.box hbx (by decide) hc, fun q hq => ?_, (h.dO.grown h.wo hg (by decide)).box hbx (by decide) hc, h.dl, fun q hq => ?_, ?_, h.ge⟩
  · have p := h.pf q hq
    exact ⟨(p.m.grown h.wo hg (by decide)).box hbx (by decide) hc, (p.b.grown h.wo hg (by decide)).box hbx (by decide) hc, (p.l.grown h.wo hg (by decide)).box hbx (by decide) hc, (p.v.grown h.wo hg (by decide)).box hbx (by decide) hc, (p.f.grown h.wo hg (by decide)).box hbx (by decide) hc⟩
  · rcases List.mem_append.1 hq with hq | hq
    · exact ((h.we q hq).grown h.wo hg (by decide)).box hbx (by decide) hc
    · exact ((he q hq).grown h.wo hg (by decide)).box hbx (by decide) hc
  · rcases List.mem_append.1 hq with hq | hq
    · exact h.de q hq
    · exact hde q hq
  · have h1 : Bel W w1 := ((h.bel.ch (fun i => W.heap.size ≤ i)).grown hg (fun k hk => Or.inl (h.wo.lt hk).1)).below (Nat.le_refl _) (fun _ hi => hi)
    exact bel_off h1 hc h.ge
/-- A row that is not Done's own. -/
theorem El.O.apart {α : Type} {E : El α} {base base2 : Nat} {v v2 : Value} {M : List α} {D : List PE} (h : E.O base w v M) (_ : E69.O base2 w v2 D) (hg : w.grownBy w1 v2.ownBlock) (hne : ∀ k, v.ownBlock = some k → v2.ownBlock ≠ some k) : E.O base w1 v M :=
  h.at (fun k hk => hg.block k (h.lt hk).2 (fun e => hne k hk e.symm))
/-- One more is known to be committed. -/
theorem Gs.joinD (h : Gs W n b gP cP vW vD L Q dn w) {dn' : List PE} (hO : E69.O W.heap.size w1 vD' dn') (hg : w.grownBy w1 vD.ownBlock) (hat : ∀ k, vD'.ownBlock = some k → vD.ownBlock = some k ∨ w.heap.size ≤ k) (hr : w2.heap[b]? = some (.cells (gc n gP cP vW vD') 51)) (hc : Ch (fun k => k = b) w1 w2) : Gs W n b gP cP vW vD' L Q dn' w2 := by
  have hbx := row_grown h.box h.dO hg (by decide)
  have hnew : ∀ {v : Value} {M : List PE} {k : Nat}, E69.O 0 w v M → v.ownBlock = some k → (vD.ownBlock ≠ some k) → vD'.ownBlock ≠ some k := fun {v M k} ho hk hn hx => by
    have hd := hx
    rcases hat k hd with h1 | h1
    · exact hn h1
    · have := (ho.lt hk).2
      omega
  refine ⟨hr, (h.row.grown h.dO hg (show (56 : Nat) ≠ 61 by decide)).box hbx (show (56 : Nat) ≠ 51 by decide) hc, fun q hq => ?_, (h.wo.grown h.dO hg (by decide)).box hbx (by decide) hc, fun q hq => ((h.we q hq).apart h.dO hg (h.de q hq)).box hbx (by decide) hc, hO.box hbx (by decide) hc, fun q hq k hk => hnew (h.pf q hq).l hk (h.dl q hq k hk), fun q hq k hk => hnew (h.we q hq) hk (h.de q hq k hk), ?_, h.ge⟩
  · have p := h.pf q hq
    exact ⟨(p.m.grown h.dO hg (by decide)).box hbx (by decide) hc, (p.b.grown h.dO hg (by decide)).box hbx (by decide) hc, (p.l.apart h.dO hg (h.dl q hq)).box hbx (by decide) hc, (p.v.grown h.dO hg (by decide)).box hbx (by decide) hc, (p.f.grown h.dO hg (by decide)).box hbx (by decide) hc⟩
  · have h1 : Bel W w1 := ((h.bel.ch (fun i => W.heap.size ≤ i)).grown hg (fun k hk => Or.inl (h.dO.lt hk).1)).below (Nat.le_refl _) (fun _ hi => hi)
    exact bel_off h1 hc h.ge
theorem Gs.c0 (h : Gs W n b gP cP vW vD L Q dn w) : w.cell? ⟨b, 0, none⟩ = some (.slice (some ⟨gP, 0, none⟩) n cP) := (cell_of h.box).trans rfl
theorem Gs.c1 (h : Gs W n b gP cP vW vD L Q dn w) : w.cell? ⟨b, 1, none⟩ = some vW := (cell_of h.box).trans rfl
theorem Gs.c2 (h : Gs W n b gP cP vW vD L Q dn w) : w.cell? ⟨b, 2, none⟩ = some vD := (cell_of h.box).trans rfl
end
set_option maxRecDepth 100000 in
set_option maxHeartbeats 4000000 in
/-- Somebody of a later term has committed that one. -/
theorem late_any {W w : World} {n b gP cP : Nat} {vW vD : Value} {L : List (PP × Px)} {Q : List (QM × Option Addr × Nat)} {dn : List PE} (h : Gs W n b gP cP vW vD L Q dn w) (hn : n ≤ 64) (hcm : ∀ q ∈ L, q.1.commit ≤ 1000000) (t : Int) (i : Nat) {j : Nat} (hj : j < L.length) (h1 : t < L[j].1.term) (h2 : i < L[j].1.commit) : Calls Tryz.prog 77 #[.pointer (some ⟨b, 0, none⟩), .int .u64 t, .int .i64 (i : Int)] w fun e w' => e = .returned (.bool true) ∧ Bel w w' := by
  have hl := h.len
  have HG := hide h
  have HC := hide hcm
  have HJ := hide (And.intro hj (And.intro h1 h2))
  have hjn : j < n := by omega
  have y0 := h.c0
  clear h hcm h1 h2
  go_enter Tryz.func77, Tryz.ntmps77
  go_wp2_with fail
  go_loopw [7] (fun vk wr => ∃ k : Nat, k ≤ j ∧ vk = .int .i64 k ∧ Hid (wr = w)) (fun vk _ => n - (intOf vk).toNat)
  case atStart => exact ⟨0, Nat.zero_le _, rfl, hide rfl⟩
  case round =>
    obtain ⟨k, hk, rfl, hwr⟩ := hrel
    have hwr := unhide hwr
    subst hwr
    have hkn : (k : Int) < n := by omega
    have hkl : k < L.length := by omega
    obtain ⟨s, x, hsx⟩ : ∃ s x, L[k] = (s, x) := ⟨_, _, rfl⟩
    have y2 := (unhide HG).at hkl hsx 2 (.int .u64 s.term) rfl
    have y11 := (unhide HG).at hkl hsx 11 (.int .u64 s.commit) rfl
    have hcs : s.commit ≤ 1000000 := by have := (unhide HC) _ (List.getElem_mem hkl); rw [hsx] at this; exact this
    have hw : IntKind.i64.wrap (s.commit : Int) = (s.commit : Int) := wrapI (by omega) (by omega)
    by_cases c1 : t < s.term
    · have d1 : decide (t < s.term) = true := decide_eq_true c1
      by_cases c2 : i < s.commit
      · have d2 : decide ((i : Int) < (s.commit : Int)) = true := decide_eq_true (by omega)
        clear hsx
        go_wp2_with fail
        go_ret
        exact ⟨rfl, Bel.refl _⟩
      · have d2 : decide ((i : Int) < (s.commit : Int)) = false := decide_eq_false (by omega)
        have hkj : k ≠ j := fun e => by subst e; have := (unhide HJ).2.2; rw [hsx] at this; exact c2 this
        clear hsx
        go_wp2_with fail
        go_roundw
        case rel => exact ⟨k + 1, by omega, by go_num, by first | exact hide rfl | exact hide trivial⟩
        case measure => simp [intOf]; omega
    · have d1 : decide (t < s.term) = false := decide_eq_false c1
      have hkj : k ≠ j := fun e => by subst e; have := (unhide HJ).2.1; rw [hsx] at this; exact c1 this
      clear hsx
      go_wp2_with fail
      go_roundw
      case rel => exact ⟨k + 1, by omega, by go_num, by first | exact hide rfl | exact hide trivial⟩
      case measure => simp [intOf]; omega
end Go.Proofs.YthipgcojbhcdgaaGreat
namespace Go.Proofs.YthipgcojbhcdgaaGreat
open Go.RowKit Go.Maps Go.Sort
set_option maxRecDepth 100000 in
set_option maxHeartbeats 4000000 in
theorem samee_no {W : World} {g off g2 off2 : Nat} {x y : PE} {c c2 : Nat} (h : E69.R W g off [x]) (h2 : E69.R W g2 off2 [y]) (hxy : x ≠ y) : Calls Tryz.prog 33 #[.slice (some ⟨g, off, none⟩) 1 c, .slice (some ⟨g2, off2, none⟩) 1 c2] W fun e w' => e = .returned (.bool false) ∧ Bel W w' := by
  obtain ⟨r0, r1, r2, r3⟩ := E69_cell h 0 (by simp)
  obtain ⟨q0, q1, q2, q3⟩ := E69_cell h2 0 (by simp)
  simp only [Nat.zero_mul, Nat.add_zero, List.getElem_cons_zero] at r0 r1 r2 r3 q0 q1 q2 q3
  have HS : Hid (∀ w : World, Calls Tryz.prog 34 #[.slice none 0 0, .slice none 0 0] w fun e w' => e = .returned (.bool true) ∧ Bel w w') := hide (fun w => (sameI0 w).mono (fun _ _ ⟨he, hw⟩ => ⟨he, by rw [hw]; exact Bel.refl _⟩))
  obtain ⟨xt, xk, xd⟩ := x
  obtain ⟨yt, yk, yd⟩ := y
  simp only at r0 r1 r2 q0 q1 q2
  have p0 : ∀ p : BelBy W, p.W.cell? ⟨g, off, none⟩ = some (.int .u64 xt) := fun p => p.h.cell r0
  have p1 : ∀ p : BelBy W, p.W.cell? ⟨g, off + 1, none⟩ = some (.int .u8 xk) := fun p => p.h.cell r1
  have p2 : ∀ p : BelBy W, p.W.cell? ⟨g, off + 2, none⟩ = some (.string xd) := fun p => p.h.cell r2
  have s0 : ∀ p : BelBy W, p.W.cell? ⟨g2, off2, none⟩ = some (.int .u64 yt) := fun p => p.h.cell q0
  have s1 : ∀ p : BelBy W, p.W.cell? ⟨g2, off2 + 1, none⟩ = some (.int .u8 yk) := fun p => p.h.cell q1
  have s2 : ∀ p : BelBy W, p.W.cell? ⟨g2, off2 + 2, none⟩ = some (.string yd) := fun p => p.h.cell q2
  clear h h2 r0 r1 r2 r3 q0 q1 q2 q3
  go_enter Tryz.func33, Tryz.ntmps33
  go_wp2_with fail
  go_loopw [5] (fun vk wr => vk = .int .i64 0 ∧ Hid (wr = W)) (fun vk _ => 0)
  case atStart => exact ⟨rfl, hide rfl⟩
  case round =>
    obtain ⟨rfl, hwr⟩ := hrel
    have hwr := unhide hwr
    subst hwr
    by_cases ht : xt = yt
    · by_cases hk : xk = yk
      · have hd : xd ≠ yd := fun e => hxy (by rw [ht, hk, e])
        have e0 : (xt != yt) = false := by simp [ht]
        have e1 : (xk != yk) = false := by simp [hk]
        have e2 : (xd.toList == yd.toList) = false := by
          rw [beq_eq_false_iff_ne]
          exact fun e => hd (ByteArray.ext (Array.toList_inj.1 (by rw [← Go.ByteArray.toList_eq, ← Go.ByteArray.toList_eq]; exact e)))
        clear hxy ht hk hd
        have hne := BelBy.some wr
        go_wp2_with fail
        refine wp_region_bel Tryz.follows (by kernel_rfl) ?_
        repeat (go_big_quiet_step (first | (go_at_call 34; refine calls_by ((unhide HS) _))))
        refine wpQuiet_nil ?_
        rintro W1 ⟨p9, rfl⟩
        have HB9 := hide p9.h
        generalize p9.W = W9 at HB9 ⊢
        go_wp2_with fail
        go_ret
        exact ⟨rfl, unhide HB9⟩
      · have e0 : (xt != yt) = false := by simp [ht]
        have e1 : (xk != yk) = true := by simp [hk]
        clear hxy ht hk
        have hne := BelBy.some wr
        go_wp2_with fail
        refine wp_region_bel Tryz.follows (by kernel_rfl) ?_
        repeat (go_big_quiet_step (first | (go_at_call 34; refine calls_by ((unhide HS) _))))
        refine wpQuiet_nil ?_
        rintro W1 ⟨p9, rfl⟩
        have HB9 := hide p9.h
        generalize p9.W = W9 at HB9 ⊢
        go_wp2_with fail
        go_ret
        exact ⟨rfl, unhide HB9⟩
    · have e0 : (xt != yt) = true := by simp [ht]
      clear hxy ht
      have hne := BelBy.some wr
      go_wp2_with fail
      refine wp_region_bel Tryz.follows (by kernel_rfl) ?_
      repeat (go_big_quiet_step (first | (go_at_call 34; refine calls_by ((unhide HS) _))))
      refine wpQuiet_nil ?_
      rintro W1 ⟨p9, rfl⟩
      have HB9 := hide p9.h
      generalize p9.W = W9 at HB9 ⊢
      go_wp2_with fail
      go_ret
      exact ⟨rfl, unhide HB9⟩
end Go.Proofs.YthipgcojbhcdgaaGreat
