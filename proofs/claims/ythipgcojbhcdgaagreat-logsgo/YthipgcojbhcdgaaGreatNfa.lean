/- Where a member stands among those that a leader knows; readings that there are none of. What a leader knows of another one is written down: plain, and in memory. -/
import Derived.Test.YthipgcojbhcdgaaGreatLly
import Derived.Test.YthipgcojbhcdgaaGreatLqk
namespace Go.Proofs.YthipgcojbhcdgaaGreat
open Go.RowKit Go.Maps Go.Sort
/-- The place of the first with this number, below 0 if there is none. -/
def Fx (F : List (Int × Int × Int)) (id v : Int) : Prop := (∃ i, ∃ h : i < F.length, v = (i : Int) ∧ F.find? (fun g => g.1 == id) = some F[i]) ∨ (v = -1 ∧ F.find? (fun g => g.1 == id) = none)
set_option maxRecDepth 100000 in
theorem folc_any {W : World} {bl : Nat} {id : Int} {f : Int × Int × Int} (hl : W.cell? ⟨bl, 0, none⟩ = some (.int .i64 id)) : Calls Tryz.prog 137 #[.agg (encF f).toArray, .pointer (some ⟨bl, 0, none⟩)] W fun e w' => e = .returned (.bool (f.1 == id)) ∧ Bel W w' := by
  have hl2 := ((Bel.refl W).alloc (.cells #[.int .i64 f.1, .int .u64 f.2.1, .int .u64 f.2.2] 133)).cell hl
  unfold encF
  go_enter Tryz.func137, Tryz.ntmps137
  go_wp2_with fail
  go_ret
  exact ⟨rfl, (Bel.refl W).alloc _⟩
set_option maxRecDepth 100000 in
set_option maxHeartbeats 1000000 in
theorem idxf_any {W : World} {a : Option Addr} {cap bl : Nat} {id : Int} {F : List (Int × Int × Int)} (hF : Sl E65 W a F) (hl : W.cell? ⟨bl, 0, none⟩ = some (.int .i64 id)) (hlen : F.length ≤ 1000000) : Calls Tryz.prog 136 #[.slice a F.length cap, .func (.func 137) #[] #[.pointer (some ⟨bl, 0, none⟩)]] W fun e w' => ∃ v, e = .returned (.int .i64 v) ∧ Fx F id v ∧ Bel W w' := by
  obtain ⟨g, off, hg, hR⟩ := hF
  have HC : Hid (∀ (w : World) (f : Int × Int × Int), Bel W w → Calls Tryz.prog 137 #[.agg (encF f).toArray, .pointer (some ⟨bl, 0, none⟩)] w fun e w' => e = .returned (.bool (f.1 == id)) ∧ Bel w w') := hide (fun w f hb => folc_any (hb.cell hl))
  clear hl
  generalize hn : F.length = n at *
  have HN := hide hn
  have HG := hide hg
  have HR := hide hR
  clear hn hg hR
  go_enter Tryz.func136, Tryz.ntmps136
  go_wp2_with fail
  go_loopw [8] (fun vk wr => ∃ (i : Nat), i ≤ n ∧ vk = .int .i64 i ∧ Hid (Bel W wr ∧ ∀ j (h : j < F.length), j < i → F[j].1 ≠ id)) (fun vk _ => n - (intOf vk).toNat)
  case atStart => exact ⟨0, Nat.zero_le _, rfl, hide ⟨Bel.refl _, fun j h hj => by omega⟩⟩
  case round =>
    obtain ⟨i, hk, rfl, HB⟩ := hrel
    by_cases hlt : i < n
    · have hil : i < F.length := by rw [unhide HN]; exact hlt
      obtain rfl := (unhide HG) (by omega)
      have hkn : (i : Int) < n := by omega
      obtain ⟨r0, r1, r2⟩ := E65_cell (unhide HR) i hil
      have r0 := (unhide HB).1.cell r0
      have r1 := (unhide HB).1.cell r1
      have r2 := (unhide HB).1.cell r2
      have HC2 := hide ((unhide HC) wr F[i] (unhide HB).1)
      unfold encF at HC2
      by_cases he : F[i].1 = id
      · have heq : (F[i].1 == id) = true := by simp [he]
        rw [heq] at HC2
        have HFX : Hid (Fx F id (i : Int)) := hide (Or.inl ⟨i, hil, rfl, by
          rw [List.find?_eq_some_iff_getElem]
          exact ⟨by simp [he], i, hil, rfl, fun j hj => by simp [(unhide HB).2 j (by omega) hj]⟩⟩)
        clear he heq
        generalize F[i].1 = f1 at *
        generalize F[i].2.1 = f2 at *
        generalize F[i].2.2 = f3 at *
        go_wp2_with (first
          | (go_at_call 137; refine (unhide HC2).mono ?_; rintro e w3 ⟨rfl, hb3⟩; have HB3 := hide ((unhide HB).1.trans hb3); clear hb3))
        go_ret
        exact ⟨_, rfl, unhide HFX, unhide HB3⟩
      · have heq : (F[i].1 == id) = false := by simp [he]
        rw [heq] at HC2
        have HNX : Hid (∀ j (h : j < F.length), j < i + 1 → F[j].1 ≠ id) := hide (fun j h hj => by
          by_cases e : j = i
          · subst e; exact he
          · exact (unhide HB).2 j h (by omega))
        clear he heq
        generalize F[i].1 = f1 at *
        generalize F[i].2.1 = f2 at *
        generalize F[i].2.2 = f3 at *
        go_wp2_with (first
          | (go_at_call 137; refine (unhide HC2).mono ?_; rintro e w3 ⟨rfl, hb3⟩; have HB3 := hide (And.intro ((unhide HB).1.trans hb3) (unhide HNX)); clear hb3))
        go_roundw
        case rel => exact ⟨i + 1, by omega, by go_num, HB3⟩
        case measure => simp [intOf]; omega
    · obtain rfl : i = n := by omega
      have HFX : Hid (Fx F id (-1)) := hide (Or.inr ⟨rfl, by
        rw [List.find?_eq_none]
        intro f hf
        obtain ⟨j, hj, rfl⟩ := List.getElem_of_mem hf
        have := (unhide HB).2 j hj (by rw [← unhide HN]; exact hj)
        simpa using this⟩)
      go_wp2_with fail
      go_ret
      exact ⟨_, rfl, unhide HFX, (unhide HB).1⟩
set_option maxRecDepth 100000 in
set_option maxHeartbeats 1000000 in
theorem folat_any {W : World} {n : Nat} {s : PP} {x : Px} (hF : Sl E65 W x.aF s.fol) (hlen : s.fol.length ≤ 64) (id : Int) : Calls Tryz.prog 111 #[.agg (pc n s x), .int .i64 id] W fun e w' => ∃ v, e = .returned (.int .i64 v) ∧ Fx s.fol id v ∧ Bel W w' := by
  have HI : Hid (∀ w bl, Bel W w → w.cell? ⟨bl, 0, none⟩ = some (.int .i64 id) → Calls Tryz.prog 136 #[.slice x.aF s.fol.length x.cF, .func (.func 137) #[] #[.pointer (some ⟨bl, 0, none⟩)]] w fun e w' => ∃ v, e = .returned (.int .i64 v) ∧ Fx s.fol id v ∧ Bel w w') := hide (fun w bl hb hl => idxf_any (hF.bel hb) hl (by omega))
  clear hF hlen
  go_enter Tryz.func111, Tryz.ntmps111
  go_wp2_with (first
    | go_skip
    | go_guarded
    | (refine bx_boxH 56 (.tmp 0) (by exact rfl) (by exact rfl) (pc n s x) (by exact rfl) ?_; intro b w0 hr0 hs0 hb0; have y15 := ((Bel.refl w0).alloc (.cells #[.int .i64 id] 3)).cell (Bx.of hr0).c15; have HB0 := hide hb0; clear hr0 hs0 hb0)
    | (go_at_call 136; refine ((unhide HI) _ _ ((unhide HB0).alloc _) (cell_of (at_new w0 _))).mono ?_; rintro e w3 ⟨v, rfl, hf3, hb3⟩; have HB3 := hide (And.intro hf3 (((unhide HB0).alloc (.cells #[.int .i64 id] 3)).trans hb3)); clear hb3 hf3))
  go_ret
  exact ⟨v, rfl, (unhide HB3).1, (unhide HB3).2⟩
set_option maxRecDepth 100000 in
set_option maxHeartbeats 1000000 in
theorem ackn_any {W : World} {n : Nat} {s : PP} {x : Px} {m : QM} {a : Option Addr} {c : Nat} : Calls Tryz.prog 112 #[.agg (pc n s x), .agg (qc m a c)] W fun e w' => e = .returned (.agg (pc n s x)) ∧ Bel W w' := by
  go_enter Tryz.func112, Tryz.ntmps112
  go_wp2_with (first
    | go_skip
    | go_guarded
    | (refine bx_boxH 56 (.tmp 0) (by exact rfl) (by exact rfl) (pc n s x) (by exact rfl) ?_; intro b w0 hr0 hs0 hb0; have HR0 := hide hr0; have HB0 := hide (And.intro hb0 hs0); clear hr0 hs0 hb0)
    | (refine bx_boxH 27 (.tmp 1) (by exact rfl) (by exact rfl) (qc m a c) (by exact rfl) ?_; intro b3 w1 hr1 hs1 hb1; have HM0 := hide hr1; have HB1 := hide hb1; clear hr1 hs1 hb1)
    | (refine bx_new rfl 56 rfl _ Tryz.zero32 ?_; intro b2 w2 hr2 hs2 hb2; have HZ := hide (Lz.mk0 (unhide HB0).1 (unhide HB0).2 (unhide HR0) (unhide HB1) (unhide HM0) hb2 hs2 hr2); clear hr2 hs2 hb2 HR0 HB0 HM0 HB1; have y17 := (Bx.of (unhide HZ).row).c17))
  go_loopw [12] (fun vk wr => vk = .int .i64 0 ∧ wr = w2) (fun vk _ => 0)
  case atStart => exact ⟨rfl, rfl⟩
  case round =>
    obtain ⟨rfl, rfl⟩ := hrel
    go_wp2_with (first
      | go_skip
      | go_guarded
      | (refine bx_ldG rfl 56 _ rfl b rfl (pc n s x) _ (unhide HZ).row Tryz.underlying56 (Tryz.size32 _ _ _) ?_)
      | (obtain ⟨s2, x2, n2, h2⟩ := (unhide HZ).row2; refine bx_st rfl 56 _ _ rfl b2 (pc n s x) _ rfl rfl h2 (Tryz.size32 _ _ _) rfl (pc_one _ _ _) ?_; intro w9 hr9 hc9; have HR9 := hide (And.intro hr9 (bel_off (unhide HZ).bel hc9 (unhide HZ).ge2)); clear hr9 hc9 h2))
    exact bodyPost_ret (res1 (p := 4) rfl Tryz.underlying56 (Tryz.size32 _ _ _) (unhide HR9).1 _ rfl) rfl ⟨rfl, (unhide HR9).2⟩
end Go.Proofs.YthipgcojbhcdgaaGreat
namespace Go.Proofs.YthipgcojbhcdgaaGreat
open Go.RowKit Go.Maps Go.Sort
section
variable {n T G : Nat} {s : PP}
theorem fol_nodup (hok : Ok n T G s) : (s.fol.map (·.1)).Nodup := by
  rcases hok.role with h' | h' | h'
  · rw [h'.2.2]; exact List.nodup_nil
  · rw [h'.2.2.2.2]; exact List.nodup_nil
  · rw [h'.2.2.2.2.2.1]; exact oth_nodup _ _
theorem fol_inj (hnd : (s.fol.map (·.1)).Nodup) {i j : Nat} (hi : i < s.fol.length) (hj : j < s.fol.length) (e : s.fol[i].1 = s.fol[j].1) : i = j := by
  have h1 : (s.fol.map (·.1))[i]'(by simpa using hi) = (s.fol.map (·.1))[j]'(by simpa using hj) := by simpa using e
  exact (List.getElem_inj (h₀ := by simpa using hi) (h₁ := by simpa using hj) hnd).1 h1
theorem setF_set (hnd : (s.fol.map (·.1)).Nodup) {i : Nat} (hi : i < s.fol.length) {f : Int × Int × Int} (e : s.fol[i].1 = f.1) : s.setF f = { s with fol := s.fol.set i f } := by
  have h : (s.fol.map fun g => if g.1 = f.1 then f else g) = s.fol.set i f := by
    apply List.ext_getElem
    · simp
    · intro j h1 h2
      rw [List.getElem_map, List.getElem_set]
      have hj : j < s.fol.length := by simpa using h1
      by_cases hij : i = j
      · subst hij
        rw [if_pos e, if_pos rfl]
      · rw [if_neg hij, if_neg (fun e2 => hij (fol_inj hnd hi hj (e.trans e2.symm)))]
  unfold PP.setF
  rw [h]
theorem setF_ok (hok : Ok n T G s) (hr : s.role = 2) (f : Int × Int × Int) (hb : 1 ≤ f.2.1 ∧ f.2.1 ≤ s.log.length + 1 ∧ f.2.2 < f.2.1 ∧ 0 ≤ f.2.2) : Ok n T G (s.setF f) := by
  have hmem : ∀ x ∈ (s.setF f).fol, x = f ∨ x ∈ s.fol := fun x hx => by
    obtain ⟨y, hy, rfl⟩ := List.mem_map.1 hx
    split
    · exact Or.inl rfl
    · exact Or.inr hy
  have hmap : (s.setF f).fol.map (·.1) = s.fol.map (·.1) := by
    show (s.fol.map _).map _ = _
    rw [List.map_map]
    refine List.map_congr_left (fun x hx => ?_)
    show (if x.1 = f.1 then f else x).1 = x.1
    split
    · rename_i e; exact e.symm
    · rfl
  refine { hok with role := Or.inr (Or.inr ?_) }
  rcases hok.role with h' | h' | h'
  · omega
  · omega
  · refine ⟨h'.1, h'.2.1, h'.2.2.1, h'.2.2.2.1, h'.2.2.2.2.1, hmap.trans h'.2.2.2.2.2.1, fun x hx => ?_⟩
    rcases hmem x hx with rfl | hx
    · exact hb
    · exact h'.2.2.2.2.2.2 x hx
end
theorem setL_mid (F : List Value) (p : Nat) (u v c : Value) (h0 : F[p]? = some u) (h2 : F[p + 2]? = some c) : setL F p [u, v, c] = F.set (p + 1) v := by
  unfold setL setL setL setL
  obtain ⟨l0, e0⟩ := List.getElem?_eq_some_iff.1 h0
  obtain ⟨l2, e2⟩ := List.getElem?_eq_some_iff.1 h2
  have a1 : F.set p u = F := by rw [← e0]; exact List.set_getElem_self l0
  rw [a1]
  have a2 : (F.set (p + 1) v)[p + 2]'(by simpa using l2) = c := by rw [List.getElem_set_ne (by omega)]; exact e2
  rw [show p + 1 + 1 = p + 2 from rfl]
  conv => lhs; rw [← a2]
  exact List.set_getElem_self _
theorem setL_end (F : List Value) (p : Nat) (u v c : Value) (h0 : F[p]? = some u) (h1 : F[p + 1]? = some v) : setL F p [u, v, c] = F.set (p + 2) c := by
  unfold setL setL setL setL
  obtain ⟨l0, e0⟩ := List.getElem?_eq_some_iff.1 h0
  obtain ⟨l1, e1⟩ := List.getElem?_eq_some_iff.1 h1
  have a1 : F.set p u = F := by rw [← e0]; exact List.set_getElem_self l0
  have a2 : F.set (p + 1) v = F := by rw [← e1]; exact List.set_getElem_self l1
  rw [a1, a2]
section
variable {base : Nat} {W : World} {g cap m : Nat} {F : List (Int × Int × Int)} {i : Nat}
theorem fl_at3 (hi : i < F.length) (c : Nat) (hc : c < 3) : (E65.fl F)[i * 3 + c]? = (encF F[i])[c]? := E65.fl_at F i c hi hc
theorem El.O.next1 (h : E65.O base W (.slice (some ⟨g, 0, none⟩) m cap) F) (hi : i < F.length) (v : Int) : E65.O base (W.setCell ⟨g, i * 3 + 1, none⟩ (.int .u64 v)) (.slice (some ⟨g, 0, none⟩) m cap) (F.set i (F[i].1, v, F[i].2.2)) := by
  have hm : m = F.length := by
    obtain ⟨a', c', g', e, _⟩ := h.shape
    injection e with _ e2
  subst hm
  have h1 := (World.ownsRow.stored h (i * 3 + 1) (.int .u64 v)).1
  have e := El.fl_set (E := E65) F i hi (F[i].1, v, F[i].2.2)
  have e2 : setL (E65.fl F) (i * 3) (encF (F[i].1, v, F[i].2.2)) = (E65.fl F).set (i * 3 + 1) (.int .u64 v) := setL_mid _ _ _ _ _ (fl_at3 hi 0 (by decide)) (fl_at3 hi 2 (by decide))
  have e3 : (E65.fl F).set (i * 3 + 1) (.int .u64 v) = E65.fl (F.set i (F[i].1, v, F[i].2.2)) := e2.symm.trans e
  unfold El.O
  rw [List.length_set, ← e3]
  exact h1
theorem El.O.match1 (h : E65.O base W (.slice (some ⟨g, 0, none⟩) m cap) F) (hi : i < F.length) (v : Int) : E65.O base (W.setCell ⟨g, i * 3 + 2, none⟩ (.int .u64 v)) (.slice (some ⟨g, 0, none⟩) m cap) (F.set i (F[i].1, F[i].2.1, v)) := by
  have hm : m = F.length := by
    obtain ⟨a', c', g', e, _⟩ := h.shape
    injection e with _ e2
  subst hm
  have h1 := (World.ownsRow.stored h (i * 3 + 2) (.int .u64 v)).1
  have e := El.fl_set (E := E65) F i hi (F[i].1, F[i].2.1, v)
  have e2 : setL (E65.fl F) (i * 3) (encF (F[i].1, F[i].2.1, v)) = (E65.fl F).set (i * 3 + 2) (.int .u64 v) := setL_end _ _ _ _ _ (fl_at3 hi 0 (by decide)) (fl_at3 hi 1 (by decide))
  have e3 : (E65.fl F).set (i * 3 + 2) (.int .u64 v) = E65.fl (F.set i (F[i].1, F[i].2.1, v)) := e2.symm.trans e
  unfold El.O
  rw [List.length_set, ← e3]
  exact h1
end
section
variable {W w w' : World} {b b2 b3 n : Nat} {s : PP} {x : Px} {m : QM} {a : Option Addr} {c : Nat}
/-- What a leader knows of the others is written in its place. -/
theorem Lz.fol (h : Lz W w b b2 b3 n s x m a c) (hp : Pg W.heap.size w n s x) {g : Nat} (hg : x.aF = some ⟨g, 0, none⟩) {F' : List (Int × Int × Int)} (hl : F'.length = s.fol.length) (ho : E65.O W.heap.size w' (.slice x.aF s.fol.length x.cF) F') (hc : Ch (fun k => k = g) w w') : Lz W w' b b2 b3 n { s with fol := F' } x m a c ∧ Pg W.heap.size w' n { s with fol := F' } x := by
  have hf := hp.f
  rw [hg] at hf
  obtain ⟨cu, hcu⟩ := hf.block (k := g) rfl
  have hge := (hf.lt (k := g) rfl).1
  obtain ⟨s2, x2, n2, h2⟩ := h.row2
  have e : pc n { s with fol := F' } x = pc n s x := by unfold pc; simp only [hl]
  refine ⟨⟨?_, hc.row h.rm (ne_kind h.rm hcu (by decide)), ⟨s2, x2, n2, hc.row h2 (ne_kind h2 hcu (by decide))⟩, bel_off h.bel hc hge, h.ge, h.ge2, h.ne⟩, ?_⟩
  · rw [e]; exact hc.row h.row (ne_kind h.row hcu (by decide))
  · refine ⟨hp.m.box hcu (by decide) hc, hp.b.box hcu (by decide) hc, hp.l.box hcu (by decide) hc, hp.v.box hcu (by decide) hc, ?_⟩
    show E65.O W.heap.size w' (.slice x.aF F'.length x.cF) F'
    rw [hl]; exact ho
theorem folat_at {W : World} (hF : Sl E65 W x.aF s.fol) (hlen : s.fol.length ≤ 64) (hnd : (s.fol.map (·.1)).Nodup) {id : Int} {i : Nat} (hi : i < s.fol.length) (hq : s.fol.find? (fun g => g.1 == id) = some s.fol[i]) : Calls Tryz.prog 111 #[.agg (pc n s x), .int .i64 id] W fun e w' => e = .returned (.int .i64 (i : Int)) ∧ Bel W w' := by
  refine (folat_any hF hlen id).mono (fun _ _ ⟨v, he, hx, hb⟩ => ⟨?_, hb⟩)
  rcases hx with ⟨j, hj, rfl, h1⟩ | ⟨_, h1⟩
  · rw [hq] at h1
    have := fol_inj hnd hi hj (congrArg (·.1) (Option.some.inj h1))
    rw [he, this]
  · rw [hq] at h1; cases h1
theorem folat_none {W : World} (hF : Sl E65 W x.aF s.fol) (hlen : s.fol.length ≤ 64) {id : Int} (hq : s.fol.find? (fun g => g.1 == id) = none) : Calls Tryz.prog 111 #[.agg (pc n s x), .int .i64 id] W fun e w' => e = .returned (.int .i64 (-1)) ∧ Bel W w' := by
  refine (folat_any hF hlen id).mono (fun _ _ ⟨v, he, hx, hb⟩ => ⟨?_, hb⟩)
  rcases hx with ⟨j, hj, rfl, h1⟩ | ⟨h0, h1⟩
  · rw [hq] at h1; cases h1
  · rw [he, h0]
end
section
variable {o : Oper} {a : Act} {w : World}
theorem one_run (x : Operand) (ho : o.op = .buildSlice 49 1 #[(0, x)]) {m : QM} {ad : Option Addr} {c : Nat} (hx : a.eval x = .agg (qc m ad c)) : (execOp a.eval o).run Tryz.prog w = .ok (.value (.slice (some ⟨w.heap.size, 0, none⟩) 1 1)) (w.alloc (.cells (qc m ad c) 27)) := by
  unfold execOp
  have := run_one E27q w (qc m ad c) rfl (by decide)
  have h2 : (Instr.buildSlice 49 1 #[(0, .agg (qc m ad c))]).run Tryz.prog w = .ok (.slice (some ⟨w.heap.size, 0, none⟩) 1 1) (w.alloc (.cells (qc m ad c) 27)) := this
  simp only [ho, List.map_toArray, List.map_cons, List.map_nil, hx, Sem.run_bind, h2, Result.andThen_ok, Sem.run_pure]
end
/-- One message that was made. -/
theorem Mo.one {base : Nat} {w : World} {m : QM} {ad : Option Addr} {c : Nat} (hb : base ≤ w.heap.size) (hk : 3 ≤ m.kind) (h : E69.O base w (.slice ad m.ents.length c) m.ents) : Mo base (w.alloc (.cells (qc m ad c) 27)) (.slice (some ⟨w.heap.size, 0, none⟩) 1 1) [m] :=
  ⟨[(m, ad, c)], rfl, (El.O.built (E := E27q) w (m, ad, c)).mono hb, fun q hq => by
    rw [List.mem_singleton.1 hq]; exact ⟨h.bel ((Bel.refl w).alloc _), fun h3 => by have h3' : m.kind < 3 := h3; omega⟩⟩
end Go.Proofs.YthipgcojbhcdgaaGreat
