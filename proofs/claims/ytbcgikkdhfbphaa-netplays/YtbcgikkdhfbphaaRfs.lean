/- The document's Send, Double, Drop, Take. -/
import Derived.Test.YtbcgikkdhfbphaaRfq
namespace Go.Proofs.Ytbcgikkdhfbphaa
open Go.RowKit Go.Maps
/-- The list's slice is another one. -/
theorem Rf.relist {W w' : World} {q : Nat} {vL : Value} {gS cS gT cT gX cX : Nat} {s : PN} {M : Nat → Prop} (h : Rf W q s M) (h1 : Rc W q vL gS cS gT cT gX cX s M) {L' : List Pk} {v' : Value} (hO : E46.O 0 w' v' L') (hc : Ch (fun i => vL.ownBlock = some i) W w') (hv : ∀ k, v'.ownBlock = some k → vL.ownBlock = some k ∨ W.heap.size ≤ k)
    (hmay : ∀ x ∈ L', s.may x.1 ∧ s.may x.2.1) (hlen : L'.length ≤ 16384) : (∃ c, w'.heap[q]? = some (.cells c 74) ∧ c[1]? = some vL) ∧ Afr W q M ⟨s.ms, L'⟩ (w'.setCell ⟨q, 1, none⟩ v') := by
  have ne : ∀ {k : Nat} {c : Array Value} {t : TypeId}, W.heap[k]? = some (.cells c t) → t ≠ 46 → vL.ownBlock ≠ some k := fun {k c t} hk ht e => by
    obtain ⟨c', hc'⟩ := h1.l.block e
    rw [hk] at hc'
    cases hc'
    exact ht rfl
  have hq : w'.heap[q]? = some (.cells #[.int .i64 s.ms.length, vL, .slice (some ⟨gS, 0, none⟩) (s.ms.length + 1) cS, .slice (some ⟨gT, 0, none⟩) (s.ms.length + 1) cT, .slice (some ⟨gX, 0, none⟩) (s.ms.length + 1) cX] 74) := hc.row h1.row (ne h1.row (by decide))
  refine ⟨⟨_, hq, rfl⟩, ?_⟩
  have hset : Ch (fun i => i = q) w' (w'.setCell ⟨q, 1, none⟩ v') := Ch.at_set _
  have hcol : ∀ {g : Nat} {t : TypeId} {vs : List Value}, Cw W g t vs → t ≠ 46 → t ≠ 74 → Cw (w'.setCell ⟨q, 1, none⟩ v') g t vs := fun {g t vs} hcw h46 h74 => by
    obtain ⟨cur, hcur, hh⟩ := hcw
    have h2 := hc.row hcur (ne hcur h46)
    exact ⟨cur, hset.row h2 (fun e => by rw [e, hq] at h2; cases h2; exact h74 rfl), hh⟩
  refine ⟨fun i => M i ∨ v'.ownBlock = some i, ⟨⟨v', gS, cS, gT, cT, gX, cX, ?_, hO.at (fun k hk => hset.block k (hO.lt hk).2 (fun e => ?_)), hcol h1.cs (by decide) (by decide), hcol h1.ct (by decide) (by decide), hcol h1.cx (by decide) (by decide), Or.inl h1.mq, Or.inl h1.mS, Or.inl h1.mT, Or.inl h1.mX, fun k hk => Or.inr hk⟩, h.one, h.few, hmay, hlen, fun i hi => ?_⟩, fun i hi => ?_, ?_⟩
  · rw [row_set hq]
    simp
  · obtain ⟨c', hc'⟩ := hO.block hk
    rw [e, hq] at hc'
    cases hc'
  · refine Nat.lt_of_lt_of_le ?_ hset.size
    rcases hi with hi | hi
    · exact Nat.lt_of_lt_of_le (h.ltM i hi) hc.size
    · exact (hO.lt hi).2
  · rcases hi with hi | hi
    · exact Or.inl hi
    · exact or_to (hv i hi) (h1.mL i) id
  · exact (hc.mono h1.mL).trans (hset.mono (M' := M) (fun i hi => by rw [hi]; exact h1.mq)) (fun i hi => Or.inl hi)
theorem Ch.of_grown {W w' : World} {row : Option Nat} (h : W.grownBy w' row) : Ch (fun i => row = some i) W w' := (Ch.refl _ W).grown h (fun _ hi => Or.inl hi)
theorem send_no0 {s : PN} {a b : Int} {t : ByteArray} (h : s.sendE a b t ≠ 0) : s.sendS a b t = s := if_neg h
/-- append of one message that was just laid; where it lies then. -/
theorem app_pk2 {ops : Array Oper} {rest : List Oper} {o : Oper} {a : Act} {Q : Exit → Act → World → Prop} {W : World} {base : Nat} {v : Value} {L : List Pk} (x : Pk) (h : E46.O base W v L) (hbase : base ≤ W.heap.size) (hb : L.length + 1 ≤ 1000000000000)
    (hgd : o.guard = none) (s y : Operand) (ho : o.op = .call { callee := .builtin .append, args := #[s, y], argTypes := #[53, 53] }) (hs : a.eval s = v) (X : Nat) (hX : X = W.heap.size) (hx : a.eval y = .slice (some ⟨X, 0, none⟩) 1 1)
    (hK : ∀ g cap w', E46.O base w' (.slice (some ⟨g, 0, none⟩) (L.length + 1) cap) (L ++ [x]) → (W.alloc (.cells #[.int .i64 x.1, .int .i64 x.2.1, .string x.2.2] 46)).grownBy w' v.ownBlock → (v.ownBlock = some g ∨ W.heap.size ≤ g) → wpList Try.prog ops Q rest (a.put o.dst (.slice (some ⟨g, 0, none⟩) (L.length + 1) cap)) w') : wpList Try.prog ops Q (o :: rest) a (W.alloc (.cells #[.int .i64 x.1, .int .i64 x.2.1, .string x.2.2] 46)) := by
  subst hX
  refine wpList_plain hgd fun K hK' => ?_
  obtain ⟨g, cap, w', hrun, r1, r2, r3⟩ := El.run_app1 (E := E46) (W.alloc (.cells #[.int .i64 x.1, .int .i64 x.2.1, .string x.2.2] 46)) base v L (h.bel ((Bel.refl _).alloc _)) (Nat.le_trans hbase (by simp)) x W.heap.size 1 (at_new W _) hb o.type
  have hrun' : (Builtin.append_ #[53, 53] o.type #[v, .slice (some ⟨W.heap.size, 0, none⟩) 1 1]).run Try.prog (W.alloc (.cells #[.int .i64 x.1, .int .i64 x.2.1, .string x.2.2] 46)) = .ok (.slice (some ⟨g, 0, none⟩) (L.length + 1) cap) w' := hrun
  unfold Oper.wp execOp
  simp only [ho, resolve, invoke, builtin, Sem.run_bind, Sem.run_pure, Result.andThen_ok, List.map_toArray, List.map_cons, List.map_nil, hs, hx, hrun']
  exact hK' _ _ (hK g cap w' r1 r2 (or_to r3 id (fun e => by rw [e]; simp)))
set_option maxRecDepth 100000 in
set_option maxHeartbeats 2000000 in
theorem sendD {W : World} {q : Nat} {s : PN} {M : Nat → Prop} (h : Rf W q s M) (a b : Int) (t : ByteArray) (ht : t.size ≤ 1000000000000000) : Calls Try.prog 29 #[.pointer (some ⟨q, 0, none⟩), .int .i64 a, .int .i64 b, .string t] W fun e w' => e = .returned (.int .i64 (s.sendE a b t)) ∧ Afr W q M (s.sendS a b t) w' := by
  have HM : Hid (∀ x v, s.mayB x = v → Calls Try.prog 51 #[.pointer (some ⟨q, 0, none⟩), .int .i64 x] W fun e w' => e = .returned (.bool v) ∧ w' = W) := hide (fun x v e => by rw [← e]; exact may_any h x)
  have HA := hide (h.aft (Bel.refl W))
  by_cases hma : s.may a
  · by_cases hmb : s.may b
    · have hma' := mayB_iff.2 hma
      have hmb' := mayB_iff.2 hmb
      by_cases h4 : 4194304 < t.size
      · have he : s.sendE a b t = 4 := by unfold PN.sendE; rw [if_pos (mayBB.2 ⟨hma, hmb⟩), if_pos h4]
        rw [send_no0 (by rw [he]; decide), he]
        have h4' : (4194304 : Int) < t.size := by omega
        clear h hma hmb he h4
        go_enter Try.func29, Try.ntmps29
        go_wp2_with (first
          | (go_at_call 51; refine ((unhide HM) _ _ (by assumption)).mono ?_; rintro e w9 ⟨rfl, hw9⟩; rw [hw9]; clear hw9))
        go_ret
        exact ⟨rfl, unhide HA⟩
      · have h4' : ¬ ((4194304 : Int) < t.size) := by omega
        obtain ⟨vL, gS, cS, gT, cT, gX, cX, h1⟩ := h.co
        obtain ⟨av, cap, g, hvL, _, _, _⟩ := h1.l.shape
        subst hvL
        have c1 : W.cell? ⟨q, 1, none⟩ = some (.slice av s.L.length cap) := cell_of h1.row
        by_cases hL : s.L.length < 16384
        · have he : s.sendE a b t = 0 := by unfold PN.sendE; rw [if_pos (mayBB.2 ⟨hma, hmb⟩), if_neg h4, if_pos hL]
          have hs : s.sendS a b t = ⟨s.ms, s.L ++ [(a, b, t)]⟩ := if_pos he
          rw [he, hs]
          have HO := hide h1.l
          have HR : Hid (∀ g' cap' w', E46.O 0 w' (.slice (some ⟨g', 0, none⟩) (s.L.length + 1) cap') (s.L ++ [(a, b, t)]) → (W.alloc (.cells #[.int .i64 a, .int .i64 b, .string t] 46)).grownBy w' (Value.slice av s.L.length cap).ownBlock → ((Value.slice av s.L.length cap).ownBlock = some g' ∨ W.heap.size ≤ g') → (∃ c, w'.heap[q]? = some (.cells c 74) ∧ c[1]? = some (.slice av s.L.length cap)) ∧ Afr W q M ⟨s.ms, s.L ++ [(a, b, t)]⟩ (w'.setCell ⟨q, 1, none⟩ (.slice (some ⟨g', 0, none⟩) (s.L.length + 1) cap'))) := hide (fun g' cap' w' k1 k2 k3 => by
            have hbel : Bel W (W.alloc (.cells #[.int .i64 a, .int .i64 b, .string t] 46)) := (Bel.refl W).alloc _
            refine h.relist h1 k1 ((hbel.ch _).grown k2 (fun i hi => Or.inl hi)) (fun k hk => by cases hk; exact k3) (fun x hx => ?_) (by rw [List.length_append]; simp; omega)
            rcases List.mem_append.1 hx with hx | hx
            · exact h.may x hx
            · simp at hx; rw [hx]; exact ⟨hma, hmb⟩)
          have hLb : s.L.length + 1 ≤ 1000000000000 := by omega
          have hL' : ¬ ((16384 : Int) ≤ s.L.length) := by omega
          have HLb := hide hLb
          clear h h1 hma hmb he h4 hs hL hLb
          generalize hLL : s.L.length = n at *
          have HLL := hide hLL
          clear hLL
          go_enter Try.func29, Try.ntmps29
          go_wp2_with (first
            | (go_at_call 51; refine ((unhide HM) _ _ (by assumption)).mono ?_; rintro e w9 ⟨rfl, hw9⟩; rw [hw9]; clear hw9)
            | (at_builtin; refine app_pk2 (a, b, t) (by have := unhide HO; exact this) (Nat.zero_le _) (by rw [unhide HLL]; exact unhide HLb) rfl _ _ rfl rfl _ (by simp) rfl ?_; intro g3 cap3 w6 ho6 hg6 hv6; rw [unhide HLL] at ho6; obtain ⟨⟨cc, hq6, hq7⟩, hfin⟩ := (unhide HR) g3 cap3 w6 ho6 hg6 hv6; have HFIN := hide hfin; have k1 : w6.cell? ⟨q, 1, none⟩ = some (.slice av n cap) := (cell_of hq6).trans hq7; have kf : w6.frozen? ⟨q, 1, none⟩ = false := free_row hq6; rw [unhide HLL]; clear ho6 hg6 hv6 hq6 hq7 hfin))
          go_ret
          exact ⟨rfl, unhide HFIN⟩
        · have he : s.sendE a b t = 6 := by unfold PN.sendE; rw [if_pos (mayBB.2 ⟨hma, hmb⟩), if_neg h4, if_neg hL]
          rw [send_no0 (by rw [he]; decide), he]
          have hL' : (16384 : Int) ≤ s.L.length := by omega
          clear h h1 hma hmb he h4 hL
          generalize s.L.length = n at *
          go_enter Try.func29, Try.ntmps29
          go_wp2_with (first
            | (go_at_call 51; refine ((unhide HM) _ _ (by assumption)).mono ?_; rintro e w9 ⟨rfl, hw9⟩; rw [hw9]; clear hw9))
          go_ret
          exact ⟨rfl, unhide HA⟩
    · have he : s.sendE a b t = 2 := by unfold PN.sendE; rw [if_neg (fun h => hmb (mayBB.1 h).2)]
      rw [send_no0 (by rw [he]; decide), he]
      have hma' := mayB_iff.2 hma
      have hmb' := mayB_not hmb
      clear h hma hmb he
      go_enter Try.func29, Try.ntmps29
      go_wp2_with (first
        | (go_at_call 51; refine ((unhide HM) _ _ (by assumption)).mono ?_; rintro e w9 ⟨rfl, hw9⟩; rw [hw9]; clear hw9))
      go_ret
      exact ⟨rfl, unhide HA⟩
  · have he : s.sendE a b t = 2 := by unfold PN.sendE; rw [if_neg (fun h => hma (mayBB.1 h).1)]
    rw [send_no0 (by rw [he]; decide), he]
    have hma' := mayB_not hma
    clear h hma he
    go_enter Try.func29, Try.ntmps29
    go_wp2_with (first
      | (go_at_call 51; refine ((unhide HM) _ _ (by assumption)).mono ?_; rintro e w9 ⟨rfl, hw9⟩; rw [hw9]; clear hw9))
    go_ret
    exact ⟨rfl, unhide HA⟩
end Go.Proofs.Ytbcgikkdhfbphaa
