/- The document's Drop, Double, Take. -/
import Derived.Test.YtbcgikkdhfbphaaRfs
namespace Go.Proofs.Ytbcgikkdhfbphaa
open Go.RowKit Go.Maps
/-- append of a part of a list. -/
theorem app_pks {ops : Array Oper} {rest : List Oper} {o : Oper} {a : Act} {Q : Exit → Act → World → Prop} {W : World} {base : Nat} {v : Value} {L : List Pk} (N : List Pk) (h : E46.O base W v L) (hbase : base ≤ W.heap.size) (ad : Option Addr) (g off cap n : Nat) (hn : N.length = n) (ha : n ≠ 0 → ad = some ⟨g, off, none⟩) (hN : E46.R W g off N) (hb : L.length + N.length ≤ 1000000000000)
    (hgd : o.guard = none) (s y : Operand) (ho : o.op = .call { callee := .builtin .append, args := #[s, y], argTypes := #[53, 53] }) (hs : a.eval s = v) (hy : a.eval y = .slice ad n cap)
    (hK : ∀ ad' cap' w', E46.O base w' (.slice ad' (L ++ N).length cap') (L ++ N) → W.grownBy w' v.ownBlock → wpList Try.prog ops Q rest (a.put o.dst (.slice ad' (L ++ N).length cap')) w') : wpList Try.prog ops Q (o :: rest) a W := by
  subst hn
  refine wpList_plain hgd fun K hK' => ?_
  obtain ⟨v', w', hrun, r1, r2, r3⟩ := El.run_app (E := E46) W base v L N h hbase ad g off cap ha hN hb o.type
  obtain ⟨a', c', g', hv', _, _, _⟩ := r1.shape
  subst hv'
  have hrun' : (Builtin.append_ #[53, 53] o.type #[v, .slice ad N.length cap]).run Try.prog W = .ok (.slice a' (L ++ N).length c') w' := hrun
  unfold Oper.wp execOp
  simp only [ho, resolve, invoke, builtin, Sem.run_bind, Sem.run_pure, Result.andThen_ok, List.map_toArray, List.map_cons, List.map_nil, hs, hy, hrun']
  exact hK' _ _ (hK a' c' w' r1 r2)
set_option maxRecDepth 100000 in
set_option maxHeartbeats 2000000 in
theorem dropD {W : World} {q : Nat} {s : PN} {M : Nat → Prop} (h : Rf W q s M) (a b i : Int) (hi : i ≤ 9223372036854775807) : Calls Try.prog 31 #[.pointer (some ⟨q, 0, none⟩), .int .i64 a, .int .i64 b, .int .i64 i] W fun e w' => e = .returned (.int .i64 (s.peek a b i).2) ∧ Afr W q M (s.dropS a b i) w' := by
  have HK := hide (look_any h a b i hi)
  by_cases h0 : (s.peek a b i).2 = 0
  · obtain ⟨pm1, pm2, p3, p4, p5, p6⟩ := peek_ok h0
    obtain ⟨k, hk, hkl, e1, e2⟩ := fndI_some p4
    have e : s.lookR a b i = ((k : Int), 0) := by unfold PN.lookR; rw [if_pos h0, hk]
    rw [e] at HK
    have hS : s.dropS a b i = ⟨s.ms, s.L.take k ++ s.L.drop (k + 1)⟩ := by unfold PN.dropS PN.cut; rw [if_pos h0, e2]
    rw [h0, hS]
    obtain ⟨vL, gS, cS, gT, cT, gX, cX, h1⟩ := h.co
    obtain ⟨av, cap, g, hvL, hav, hR, hcap⟩ := h1.l.shape
    subst hvL
    obtain rfl := hav (by omega)
    have c1 : W.cell? ⟨q, 1, none⟩ = some (.slice (some ⟨g, 0, none⟩) s.L.length cap) := cell_of h1.row
    have hlen := h.len
    have HR1 := hide (hR.take k)
    have HR2 := hide (hR.drop (k + 1))
    have HX : Hid (∀ ad' cap' w', E46.O W.heap.size w' (.slice ad' (s.L.take k ++ s.L.drop (k + 1)).length cap') (s.L.take k ++ s.L.drop (k + 1)) → Bel W w' → (∃ c, w'.heap[q]? = some (.cells c 74) ∧ c[1]? = some (.slice (some ⟨g, 0, none⟩) s.L.length cap)) ∧ Afr W q M ⟨s.ms, s.L.take k ++ s.L.drop (k + 1)⟩ (w'.setCell ⟨q, 1, none⟩ (.slice ad' (s.L.take k ++ s.L.drop (k + 1)).length cap'))) := hide (fun ad' cap' w' k1 k2 => by
      refine h.relist h1 (k1.mono (Nat.zero_le _)) (k2.ch _) (fun z hz => Or.inr (k1.lt hz).1) (fun x hx => ?_) ?_
      · rcases List.mem_append.1 hx with hx | hx
        · exact h.may x (List.mem_of_mem_take hx)
        · exact h.may x (List.mem_of_mem_drop hx)
      · rw [List.length_append, List.length_take, List.length_drop]; omega)
    have HT : Hid ((s.L.take k).length = k) := hide (by rw [List.length_take]; omega)
    have HD : Hid ((s.L.drop (k + 1)).length = s.L.length - (k + 1)) := hide (by rw [List.length_drop])
    have hTD : (s.L.take k ++ s.L.drop (k + 1)).length = s.L.length - 1 := by rw [List.length_append, List.length_take, List.length_drop]; omega
    have HTD := hide hTD
    have hkn : (k : Int) < s.L.length := by omega
    have hkn' : k < s.L.length := hkl
    have hkw : IntKind.i64.wrap ((k : Int) + 1) = (k : Int) + 1 := wrapI (by omega) (by omega)
    clear h hR e e2 hk p5 p6 h1 e1 hS h0 hav hTD p3 pm1 pm2 p4
    generalize s.L.take k = A at *
    generalize s.L.drop (k + 1) = B at *
    generalize s.L.length = n at *
    by_cases hce : cap = k + 1
    · obtain rfl : n = k + 1 := by omega
      subst hce
      go_enter Try.func31, Try.ntmps31
      go_wp2_with (first
        | (go_at_call 52; refine (unhide HK).mono ?_; rintro e w9 ⟨rfl, hw9⟩; rw [hw9]; clear hw9)
        | (at_builtin; refine app_pks (L := []) A (El.O.nil W.heap.size W) (Nat.le_refl _) (some ⟨g, 0, none⟩) g 0 (k + 1) k (unhide HT) (fun _ => rfl) (unhide HR1) (by rw [unhide HT]; simp; omega) rfl _ _ rfl rfl rfl ?_; intro ad1 cap1 w1 ho1 hg1; have HB1 : Hid (Bel W w1) := hide (bel_grown (Bel.refl W) hg1 (fun z hz => by cases hz)); rw [List.nil_append] at ho1; have HO1 := hide ho1; have c11 : w1.cell? ⟨q, 1, none⟩ = some (.slice (some ⟨g, 0, none⟩) (k + 1) (k + 1)) := (unhide HB1).cell c1; rw [List.nil_append, unhide HT]; clear ho1 hg1)
        | (at_builtin; refine app_pks (L := A) B (by have := unhide HO1; rw [unhide HT] at this; exact this) (unhide HB1).size (some ⟨g, 0, none⟩) g (0 + (k + 1) * E46.k) 0 0 (by rw [unhide HD]; omega) (fun h0 => absurd rfl h0) ((unhide HR2).bel (unhide HB1)) (by rw [unhide HT, unhide HD]; omega) rfl _ _ rfl rfl rfl ?_; intro ad2 cap2 w2 ho2 hg2; have hb2 : Bel W w2 := bel_grown (unhide HB1) hg2 (fun z hz => by have := ((unhide HO1).lt (by rw [unhide HT]; exact hz)).1; exact this); obtain ⟨⟨cc, hq6, hq7⟩, hfin⟩ := (unhide HX) ad2 cap2 w2 ho2 hb2; have HFIN := hide hfin; have k1 : w2.cell? ⟨q, 1, none⟩ = some (.slice (some ⟨g, 0, none⟩) (k + 1) (k + 1)) := (cell_of hq6).trans hq7; have kf : w2.frozen? ⟨q, 1, none⟩ = false := free_row hq6; clear ho2 hg2 hb2 hq6 hq7 hfin))
      go_ret
      exact ⟨rfl, by have h9 := unhide HFIN; rw [List.length_append] at h9; exact h9⟩
    · have hce' : ¬ (cap = k + 1) := hce
      go_enter Try.func31, Try.ntmps31
      go_wp2_with (first
        | (go_at_call 52; refine (unhide HK).mono ?_; rintro e w9 ⟨rfl, hw9⟩; rw [hw9]; clear hw9)
        | (at_builtin; refine app_pks (L := []) A (El.O.nil W.heap.size W) (Nat.le_refl _) (some ⟨g, 0, none⟩) g 0 cap k (unhide HT) (fun _ => rfl) (unhide HR1) (by rw [unhide HT]; simp; omega) rfl _ _ rfl rfl rfl ?_; intro ad1 cap1 w1 ho1 hg1; have HB1 : Hid (Bel W w1) := hide (bel_grown (Bel.refl W) hg1 (fun z hz => by cases hz)); rw [List.nil_append] at ho1; have HO1 := hide ho1; have c11 : w1.cell? ⟨q, 1, none⟩ = some (.slice (some ⟨g, 0, none⟩) n cap) := (unhide HB1).cell c1; rw [List.nil_append, unhide HT]; clear ho1 hg1)
        | (at_builtin; refine app_pks (L := A) B (by have := unhide HO1; rw [unhide HT] at this; exact this) (unhide HB1).size (some ⟨g, (k + 1) * 3, none⟩) g (0 + (k + 1) * E46.k) (cap - (k + 1)) (n - (k + 1)) (unhide HD) (fun _ => by simp [E46]) ((unhide HR2).bel (unhide HB1)) (by rw [unhide HT, unhide HD]; omega) rfl _ _ rfl rfl rfl ?_; intro ad2 cap2 w2 ho2 hg2; have hb2 : Bel W w2 := bel_grown (unhide HB1) hg2 (fun z hz => by have := ((unhide HO1).lt (by rw [unhide HT]; exact hz)).1; exact this); obtain ⟨⟨cc, hq6, hq7⟩, hfin⟩ := (unhide HX) ad2 cap2 w2 ho2 hb2; have HFIN := hide hfin; have k1 : w2.cell? ⟨q, 1, none⟩ = some (.slice (some ⟨g, 0, none⟩) n cap) := (cell_of hq6).trans hq7; have kf : w2.frozen? ⟨q, 1, none⟩ = false := free_row hq6; clear ho2 hg2 hb2 hq6 hq7 hfin))
      go_ret
      exact ⟨rfl, by have h9 := unhide HFIN; rw [List.length_append] at h9; exact h9⟩
  · have e : s.lookR a b i = (-1, (s.peek a b i).2) := if_neg h0
    have e2 : s.dropS a b i = s := if_neg h0
    rw [e] at HK
    rw [e2]
    have HA := hide (h.aft (Bel.refl W))
    generalize (s.peek a b i).2 = x at *
    clear h e e2
    go_enter Try.func31, Try.ntmps31
    go_wp2_with (first
      | (go_at_call 52; refine (unhide HK).mono ?_; rintro e w9 ⟨rfl, hw9⟩; rw [hw9]; clear hw9))
    go_ret
    exact ⟨rfl, unhide HA⟩
set_option maxRecDepth 100000 in
set_option maxHeartbeats 1000000 in
theorem doubD {W : World} {q : Nat} {s : PN} {M : Nat → Prop} (h : Rf W q s M) (ht : ∀ x ∈ s.L, x.2.2.size ≤ 4194304) (a b i : Int) (hi : i ≤ 9223372036854775807) : Calls Try.prog 32 #[.pointer (some ⟨q, 0, none⟩), .int .i64 a, .int .i64 b, .int .i64 i] W fun e w' => e = .returned (.int .i64 (s.doubE a b i)) ∧ Afr W q M (s.doubS a b i) w' := by
  have HK := hide (look_any h a b i hi)
  by_cases h0 : (s.peek a b i).2 = 0
  · obtain ⟨pm1, pm2, p3, p4, p5, p6⟩ := peek_ok h0
    obtain ⟨k, hk, hkl, e1, _⟩ := fndI_some p4
    have e : s.lookR a b i = ((k : Int), 0) := by unfold PN.lookR; rw [if_pos h0, hk]
    rw [e] at HK
    obtain ⟨ad, g, cap, c1, hg, hR, hcap⟩ := h.list
    obtain rfl := hg (by omega)
    have hpk : (a, b, (s.peek a b i).1) ∈ s.L := by
      rw [p6, List.getElem?_eq_getElem p4]
      exact qs_mem _ _ _ _ p4
    have r2 : W.cell? ⟨g, k * 3 + 2, none⟩ = some (.string (s.peek a b i).1) := by
      have := hR k hkl 2 _ rfl
      rw [e1] at this
      rw [p6, List.getElem?_eq_getElem p4]
      simpa [E46] using this
    have hts := ht _ hpk
    have HS := hide (sendD h a b (s.peek a b i).1 (by simp only at hts; omega))
    have eE : s.sendE a b (s.peek a b i).1 = s.doubE a b i := by
      unfold PN.sendE PN.doubE
      rw [if_pos (mayBB.2 ⟨pm1, pm2⟩), if_neg (by simp only at hts; omega), if_pos h0]
    have eS : s.sendS a b (s.peek a b i).1 = s.doubS a b i := by
      unfold PN.sendS PN.doubS
      rw [eE]
      unfold PN.doubE
      rw [if_pos h0, if_pos h0]
      split
      · simp
      · simp
    rw [eE, eS] at HS
    have hkn : (k : Int) < s.L.length := by omega
    clear h hR e1 e hk p5 p6 hg eE eS hts hpk ht
    generalize (s.peek a b i).1 = t at *
    generalize s.L.length = n at *
    clear p4
    go_enter Try.func32, Try.ntmps32
    go_wp2_with (first
      | (go_at_call 52; refine (unhide HK).mono ?_; rintro e w9 ⟨rfl, hw9⟩; rw [hw9]; clear hw9)
      | (go_at_call 29; refine (unhide HS).mono ?_; rintro e w8 ⟨rfl, ha8⟩; have HA8 := hide ha8; clear ha8))
    go_ret
    exact ⟨rfl, unhide HA8⟩
  · have e : s.lookR a b i = (-1, (s.peek a b i).2) := if_neg h0
    have e2 : s.doubS a b i = s := if_neg h0
    have e3 : s.doubE a b i = (s.peek a b i).2 := if_neg h0
    rw [e] at HK
    rw [e2, e3]
    have HA := hide (h.aft (Bel.refl W))
    generalize (s.peek a b i).2 = x at *
    clear h e e2 e3
    go_enter Try.func32, Try.ntmps32
    go_wp2_with (first
      | (go_at_call 52; refine (unhide HK).mono ?_; rintro e w9 ⟨rfl, hw9⟩; rw [hw9]; clear hw9))
    go_ret
    exact ⟨rfl, unhide HA⟩
end Go.Proofs.Ytbcgikkdhfbphaa
