/- One message more: lay, Send. -/
import Derived.Test.YtbcgikkdhfbphaaLay
namespace Go.Proofs.Ytbcgikkdhfbphaa
open Go.RowKit Go.Maps
set_option maxRecDepth 100000 in
theorem lay_full {C : Nat} {w : World} {p : Nat} {s : PN} {M : Nat → Prop} (h : Nt C w p s M) (hL : s.L.length = 16384) (a b : Int) (t : ByteArray) : Calls Try.prog 44 #[.pointer (some ⟨p, 0, none⟩), .agg #[.int .i64 a, .int .i64 b], .string t] w fun e w' => e = .returned (.int .i64 6) ∧ Bel w w' := by
  have hbel := (Bel.refl w).alloc (.cells #[.int .i64 a, .int .i64 b] 86)
  obtain ⟨bm, cm, bl, n, f, h1, h2⟩ := (h.bel hbel).co
  have c2 : (w.alloc (.cells #[.int .i64 a, .int .i64 b] 86)).cell? ⟨p, 2, none⟩ = some (.int .i64 16384) := by
    have := cell_of (i := 2) h1.row
    rw [hL] at this
    exact this
  have HB := hide hbel
  clear h h1 h2 hbel
  go_enter Try.func44, Try.ntmps44
  go_wp2_with fail
  go_ret
  exact ⟨rfl, unhide HB⟩
/-- append of one text, as a step of a region that draws. -/
theorem step_app1 {ops : Array Oper} {o : Oper} {a : Act} {w : World} {K : Act → World → Prop} {Q : Exit → Act → World → Prop} {E : Prop} (hgd : o.guard = none) (s x : Operand)
    (ho : o.op = .call { callee := .builtin .append, args := #[s, x], argTypes := #[87, 87] }) (v : Value) (l : List ByteArray) (hv : LV w v l) (B c : Nat) (t : ByteArray) (hc : w.cell? ⟨B, 0, none⟩ = some (.string t)) (hl : l.length ≤ 1000000)
    (hs : a.eval s = v) (hx : a.eval x = .slice (some ⟨B, 0, none⟩) 1 c)
    (h : ∀ g off cap w', SR w' g off cap (l ++ [t]) → w.grownBy w' v.ownBlock → (v.ownBlock = some g ∨ w.heap.size ≤ g) → K (a.put o.dst (.slice (some ⟨g, off, none⟩) (l.length + 1) cap)) w') :
    if Region.wanted o (yielded ops a.tmps) = true then Oper.wp Try.prog o a w K Q else E := by
  have hw : Region.wanted o (yielded ops a.tmps) = true := by simp [Region.wanted, hgd]
  rw [if_pos hw]
  obtain ⟨g, off, cap, w', hr, h1, h2, h3⟩ := run_app1 w v l hv ⟨B, 0, none⟩ rfl t c hc hl o.type
  unfold Oper.wp execOp
  simp only [ho, resolve, invoke, builtin, Sem.run_bind, Sem.run_pure, Result.andThen_ok, List.map_toArray, List.map_cons, List.map_nil, hs, hx, hr]
  exact h g off cap w' h1 h2 h3
/-- One message more. -/
def PN.send (s : PN) (a b : Int) (t : ByteArray) : PN := ⟨s.ms, s.L ++ [(a, b, t)]⟩
theorem Cn.lv {w : World} {p bm cm bl n : Nat} {f : Int × Int → Option Value} {s : PN} {M : Nat → Prop} (h : Cn w p bm cm bl n f s M) (x : Int × Int) : LV w ((f x).getD (.slice none 0 0)) (qs s.L x.1 x.2) := by
  cases hf : f x with
  | none => exact Or.inl ⟨rfl, h.no x hf⟩
  | some v =>
    obtain ⟨g, off, cap, rfl, h1, _, _⟩ := h.yes x v hf
    exact Or.inr ⟨g, off, cap, rfl, h1⟩
theorem turned_row {w w' : World} {b x : Nat} {c : Array Value} {t : TypeId} {fr : Nat × Nat} (h : w.mapTurned w' b) (hx : w.heap[x]? = some (.cells c t fr)) : w'.heap[x]? = some (.cells c t fr) := by
  obtain ⟨es, clock, es', clock', hb, rfl⟩ := h
  have hne : x ≠ b := fun e => by rw [e, hb] at hx; cases hx
  exact (ChangeMaps.heap_setBlock_other hb _ hne).trans hx
theorem LV.turned {w w' : World} {b : Nat} {v : Value} {l : List ByteArray} (h : LV w v l) (t : w.mapTurned w' b) : LV w' v l := by
  rcases h with h | ⟨g, off, cap, rfl, c, h1, h2⟩
  · exact Or.inl h
  · exact Or.inr ⟨g, off, cap, rfl, c, turned_row t h1, h2⟩
theorem LV.ne_map {w : World} {b : Nat} {v : Value} {l : List ByteArray} (h : LV w v l) {es : Array MapEntry} {clock : Nat} (hb : w.heap[b]? = some (.map es clock)) : v.ownBlock ≠ some b := by
  rcases h with ⟨rfl, _⟩ | ⟨g, off, cap, rfl, c, h1, h2⟩
  · simp [Value.ownBlock]
  · intro e
    cases e
    rw [h1] at hb
    cases hb
theorem turned_map {w w' : World} {b : Nat} (h : w.mapTurned w' b) : ∃ es clock, w'.heap[b]? = some (.map es clock) := by
  obtain ⟨es, clock, es', clock', hb, rfl⟩ := h
  exact ⟨es', clock', ChangeMaps.heap_setBlock_same hb _⟩
theorem grown_refl_trans {a b c : World} {k : Nat} {row : Option Nat} (h : a.mapTurned b k) (h' : b.grownBy c row) : Ch (fun i => i = k ∨ row = some i) a c :=
  ((Ch.refl _ a).turned h (Or.inl (Or.inl rfl))).grown h' (fun _ hi => Or.inl (Or.inr hi))
theorem lay_end {C : Nat} {w Wd w1 w' w3 : World} {p bm cm bl n g off cap : Nat} {f : Int × Int → Option Value} {s : PN} {M : Nat → Prop} {a b : Int} {t : ByteArray} {V : Value} (H1 : Cn Wd p bm cm bl n f s M) (hlt : ∀ i, M i → i < Wd.heap.size) (h2 : n ≤ C)
    (HM : 1 ≤ s.ms.length ∧ s.ms.length ≤ 64 ∧ (∀ x ∈ s.L, s.may x.1 ∧ s.may x.2.1) ∧ s.may a ∧ s.may b) (hL : s.L.length < 16384) (hBel : Bel w Wd) (hT : Wd.mapTurned w1 bl) (hg : w1.grownBy w' V.ownBlock) (hV : (f (a, b)).getD (.slice none 0 0) = V) (ht3 : w'.mapTurned w3 bl)
    (hsr : SR w' g off cap (qs s.L a b ++ [t])) (hat : V.ownBlock = some g ∨ w1.heap.size ≤ g) (hmg3 : Mg 86 lk w3 bl (n + 1) (upd f (a, b) (some (.slice (some ⟨g, off, none⟩) ((qs s.L a b).length + 1) cap)))) :
    (∃ row, w3.heap[p]? = some (.cells row 70) ∧ row[2]? = some (.int .i64 s.L.length)) ∧ Aft (C + 1) w p M (s.send a b t) (w3.setCell ⟨p, 2, none⟩ (.int .i64 ((s.L.length : Int) + 1))) := by
  subst hV
  have hch : Ch (fun i => i = bl ∨ ((f (a, b)).getD (.slice none 0 0)).ownBlock = some i) Wd w3 := (grown_refl_trans hT hg).turned ht3 (Or.inl (Or.inl rfl))
  have hq : qs (s.L ++ [(a, b, t)]) a b = qs s.L a b ++ [t] := qs_snoc _ _ _ _
  have hs1 : Wd.heap.size ≤ w1.heap.size := hT.grown.size
  have hsr3 : SR w3 g off cap (qs s.L a b ++ [t]) := by
    obtain ⟨c, q1, q2⟩ := hsr
    exact ⟨c, turned_row ht3 q1, q2⟩
  obtain ⟨M', k1, k2, k3, k4, k5⟩ := H1.relink (w4 := w3.setCell ⟨p, 2, none⟩ (.int .i64 ((s.L.length : Int) + 1))) hlt (a, b) (s.L ++ [(a, b, t)]) (some (.slice (some ⟨g, off, none⟩) ((qs s.L a b).length + 1) cap)) hch hmg3
    (fun y hy => qs_snoc_ne _ _ (fun e => hy (Prod.ext e.1.symm e.2.symm)))
    (Or.inr ⟨g, off, cap, by rw [hq]; simp, by rw [hq]; exact hsr3, by rw [hq]; simp, or_to hat id (fun h => Nat.le_trans hs1 h)⟩) (by simp)
  have hrow3 : w3.heap[p]? = some (.cells #[.slice (some ⟨bm, 0, none⟩) s.ms.length cm, .map (some bl), .int .i64 s.L.length] 70) := by
    rw [hch.block p (hlt p H1.mp) ?_]
    · exact H1.row
    · rintro (e | e)
      · exact H1.mg.ne_row H1.row e.symm
      · have := H1.lv (a, b)
        rcases this with ⟨e', _⟩ | ⟨g', o', c', e', c, q1, _⟩
        · rw [e'] at e; cases e
        · rw [e'] at e
          cases e
          rw [H1.row] at q1
          cases q1
  refine ⟨⟨_, hrow3, rfl⟩, M', ⟨⟨bm, cm, bl, n + 1, _, k1, by omega⟩, k3, HM.1, HM.2.1, fun x hx => ?_, by simp [PN.send]; omega⟩, fun i hi => or_to (k2 i hi) id (fun h => Nat.le_trans hBel.size h), ?_⟩
  · simp only [PN.send, List.mem_append, List.mem_singleton] at hx
    rcases hx with hx | rfl
    · exact HM.2.2.1 x hx
    · exact HM.2.2.2
  · exact (hBel.ch M).trans k5 (fun i hi => Or.inl hi)
set_option maxRecDepth 100000 in
set_option maxHeartbeats 1000000 in
theorem lay_yes {C : Nat} {w : World} {p : Nat} {s : PN} {M : Nat → Prop} (h : Nt C w p s M) (hC : C ≤ 900000) (hL : s.L.length < 16384) {a b : Int} (ha : s.may a) (hb : s.may b) (t : ByteArray) : Calls Try.prog 44 #[.pointer (some ⟨p, 0, none⟩), .agg #[.int .i64 a, .int .i64 b], .string t] w fun e w' => e = .returned (.int .i64 0) ∧ Aft (C + 1) w p M (s.send a b t) w' := by
  have hbel : Bel w (w.alloc (.cells #[.int .i64 a, .int .i64 b] 86)) := (Bel.refl w).alloc (.cells #[.int .i64 a, .int .i64 b] 86)
  have hk := at_new w (.cells #[.int .i64 a, .int .i64 b] 86)
  have HN := hide (h.bel hbel)
  have HB := hide hbel
  generalize hW : w.alloc (.cells #[.int .i64 a, .int .i64 b] 86) = W at *
  obtain ⟨bm, cm, bl, n, f, h1, h2⟩ := (unhide HN).co
  have c1 : W.cell? ⟨p, 1, none⟩ = some (.map (some bl)) := cell_of h1.row
  have c2 : W.cell? ⟨p, 2, none⟩ = some (.int .i64 s.L.length) := cell_of h1.row
  have k0 : W.cell? ⟨w.heap.size, 0, none⟩ = some (.int .i64 a) := cell_of hk
  have k1 : W.cell? ⟨w.heap.size, 1, none⟩ = some (.int .i64 b) := cell_of hk
  have hWd : Bel W (W.alloc (.cells #[.string t] 9)).drew := ((Bel.refl W).alloc _).drew
  have k0' : (W.alloc (.cells #[.string t] 9)).cell? ⟨w.heap.size, 0, none⟩ = some (.int .i64 a) := ((Bel.refl W).alloc _).cell k0
  have k1' : (W.alloc (.cells #[.string t] 9)).cell? ⟨w.heap.size, 1, none⟩ = some (.int .i64 b) := ((Bel.refl W).alloc _).cell k1
  have c1' : (W.alloc (.cells #[.string t] 9)).cell? ⟨p, 1, none⟩ = some (.map (some bl)) := ((Bel.refl W).alloc _).cell c1
  have h1d := h1.at (fun i hi => hWd.block i ((unhide HN).ltM i hi))
  obtain ⟨st, w1, hE, hT, HS⟩ := h1d.mg.entry K86 lk_inj Try.underlying68 zero87 (by omega) (x := (a, b)) ((unhide HN).key ha hb)
  have HLV := hide ((h1d.lv (a, b)).turned hT)
  have HBL : Hid (((f (a, b)).getD (.slice none 0 0)).ownBlock ≠ some bl ∧ bl < w1.heap.size) := hide (by
    obtain ⟨es, clock, hm⟩ := turned_map hT
    exact ⟨(unhide HLV).ne_map hm, lt_of_some hm⟩)
  have HQ : Hid ((qs s.L a b).length ≤ 1000000) := hide (by have := qs_len s.L a b; omega)
  have HT := hide hT
  have HSS := hide HS
  have H1 := hide h1d
  have HLT := hide (fun i hi => Nat.lt_of_lt_of_le ((unhide HN).ltM i hi) hWd.size)
  have hB : (W.alloc (.cells #[.string t] 9)).drew.heap[W.heap.size]? = some (.cells #[.string t] 9) := at_new W (.cells #[.string t] 9)
  have HBB : Hid (w1.cell? ⟨W.heap.size, 0, none⟩ = some (.string t)) := hide (cell_of (turned_row hT hB))
  have HL := hide hL
  have HM := hide (And.intro h.one (And.intro h.few (And.intro h.may (And.intro ha hb))))
  have HWd := hide ((unhide HB).trans hWd)
  simp only [lk] at hE
  generalize hV : (f (a, b)).getD (.slice none 0 0) = V at *
  generalize hfl : (s.L.length : Int) = fl at *
  have Hfl := hide hfl
  have hf0 : 0 ≤ fl := by omega
  have hf1 : fl < 16384 := by omega
  have HV := hide hV
  clear h1 hk h h1d hT HS hB hWd hbel ha hb hV hfl HN
  have hfl1 : IntKind.i64.wrap (fl + 1) = fl + 1 := wrapI (by omega) (by omega)
  go_enter Try.func44, Try.ntmps44
  go_wp2_with fail
  go_region_law (first
    | (refine step_app1 rfl _ _ rfl V (qs s.L a b) (unhide HLV) W.heap.size 1 t (unhide HBB) (unhide HQ) (by simp [Act.eval, Act.put]) (by simp [Act.eval, Act.put]) ?_; intro g off cap w' hsr hg hat; obtain ⟨w3, hst, hmg3, ht3⟩ := (unhide HSS) w' (.slice (some ⟨g, off, none⟩) ((qs s.L a b).length + 1) cap) (hg.block bl (unhide HBL).2 (fun e => (unhide HBL).1 e.symm))))
  all_goals
    obtain ⟨⟨row, hrow, hrow2⟩, hfin⟩ := lay_end (unhide H1) (unhide HLT) h2 (unhide HM) (unhide HL) (unhide HWd) (unhide HT) hg (unhide HV) ht3 hsr hat hmg3
    have r2 : w3.cell? ⟨p, 2, none⟩ = some (.int .i64 fl) := by rw [cell_of hrow, hrow2, ← unhide Hfl]
    have rf : w3.frozen? ⟨p, 2, none⟩ = false := free_row hrow
    rw [unhide Hfl] at hfin
    have HFIN := hide hfin
    clear hfin hrow hrow2 hsr hg hat hst hmg3 ht3 hE
    go_wp2_with fail
    go_ret
    exact ⟨rfl, unhide HFIN⟩
/-- What Send answers, and what it leaves. -/
def PN.sendE (s : PN) (a b : Int) (t : ByteArray) : Int := if s.mayB a && s.mayB b then (if 4194304 < t.size then 4 else if s.L.length < 16384 then 0 else 6) else 2
def PN.sendS (s : PN) (a b : Int) (t : ByteArray) : PN := if s.sendE a b t = 0 then s.send a b t else s
theorem send_fin {C : Nat} {w w' : World} {p : Nat} {s : PN} {M : Nat → Prop} {a b : Int} {t : ByteArray} (h : Nt C w p s M) (hb : Bel w w') (he : s.sendE a b t ≠ 0) : Aft (C + 1) w p M (s.sendS a b t) w' := by
  unfold PN.sendS
  rw [if_neg he]
  exact (h.aft hb).mono (Nat.le_succ _)
set_option maxRecDepth 100000 in
theorem send_any {C : Nat} {w : World} {p : Nat} {s : PN} {M : Nat → Prop} (h : Nt C w p s M) (hC : C ≤ 900000) (a b : Int) (t : ByteArray) (ht : t.size ≤ 1000000000000000) : Calls Try.prog 15 #[.pointer (some ⟨p, 0, none⟩), .int .i64 a, .int .i64 b, .string t] w fun e w' => e = .returned (.int .i64 (s.sendE a b t)) ∧ Aft (C + 1) w p M (s.sendS a b t) w' := by
  have HF := hide (fault2 h a b)
  have hbel := (Bel.refl w).alloc (.cells #[.int .i64 a, .int .i64 b] 3)
  have HH := hide h
  have HN := hide (h.bel hbel)
  have HB := hide hbel
  generalize hW : w.alloc (.cells #[.int .i64 a, .int .i64 b] 3) = W at *
  by_cases hm : s.may a ∧ s.may b
  · rw [flt2_ok hm.1 hm.2] at HF
    by_cases h4 : 4194304 < t.size
    · have he : s.sendE a b t = 4 := by unfold PN.sendE; rw [if_pos (mayBB.2 hm), if_pos h4]
      have HS := hide (fun w' hb => send_fin (a := a) (b := b) (t := t) (w' := w') (unhide HH) hb (by rw [he]; decide))
      have h4' : (4194304 : Int) < t.size := by omega
      rw [he]
      clear h hm hbel he h4
      go_enter Try.func15, Try.ntmps15
      go_wp2_with (first
        | (go_at_call 37; refine (unhide HF).mono ?_; rintro e w9 ⟨rfl, hw9⟩; rw [hw9]; clear hw9))
      go_ret
      exact ⟨rfl, (unhide HS) _ (unhide HB)⟩
    · have h4' : ¬ ((4194304 : Int) < t.size) := by omega
      by_cases hL : s.L.length < 16384
      · have he : s.sendE a b t = 0 := by unfold PN.sendE; rw [if_pos (mayBB.2 hm), if_neg h4, if_pos hL]
        have hs : s.sendS a b t = s.send a b t := if_pos he
        rw [he, hs]
        have HL := hide (lay_yes (unhide HN) hC hL hm.1 hm.2 t)
        clear h hm hbel he h4 hL hs
        go_enter Try.func15, Try.ntmps15
        go_wp2_with (first
          | (go_at_call 37; refine (unhide HF).mono ?_; rintro e w9 ⟨rfl, hw9⟩; rw [hw9]; clear hw9)
          | (go_at_call 44; refine (unhide HL).mono ?_; rintro e w8 ⟨rfl, ha8⟩; have HA8 := hide ha8; clear ha8))
        go_ret
        exact ⟨rfl, (unhide HA8).from (unhide HB)⟩
      · have he : s.sendE a b t = 6 := by unfold PN.sendE; rw [if_pos (mayBB.2 hm), if_neg h4, if_neg hL]
        have HS := hide (fun w' hb => send_fin (a := a) (b := b) (t := t) (w' := w') (unhide HH) hb (by rw [he]; decide))
        have HL := hide (lay_full (unhide HN) (by have := h.len; omega) a b t)
        rw [he]
        clear h hm hbel he h4 hL
        go_enter Try.func15, Try.ntmps15
        go_wp2_with (first
          | (go_at_call 37; refine (unhide HF).mono ?_; rintro e w9 ⟨rfl, hw9⟩; rw [hw9]; clear hw9)
          | (go_at_call 44; refine (unhide HL).mono ?_; rintro e w8 ⟨rfl, ha8⟩; have HA8 := hide ha8; clear ha8))
        go_ret
        exact ⟨rfl, (unhide HS) _ ((unhide HB).trans (unhide HA8))⟩
  · rw [flt2_no hm] at HF
    have he : s.sendE a b t = 2 := by unfold PN.sendE; rw [if_neg (fun h => hm (mayBB.1 h))]
    have HS := hide (fun w' hb => send_fin (a := a) (b := b) (t := t) (w' := w') (unhide HH) hb (by rw [he]; decide))
    rw [he]
    clear h hm hbel he
    go_enter Try.func15, Try.ntmps15
    go_wp2_with (first
      | (go_at_call 37; refine (unhide HF).mono ?_; rintro e w9 ⟨rfl, hw9⟩; rw [hw9]; clear hw9))
    go_ret
    exact ⟨rfl, (unhide HS) _ (unhide HB)⟩
end Go.Proofs.Ytbcgikkdhfbphaa
