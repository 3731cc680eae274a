/- One call of both: Take. -/
import Derived.Test.YtbcgikkdhfbphaaDoe
namespace Go.Proofs.Ytbcgikkdhfbphaa
open Go.RowKit Go.Maps
theorem tb_take {s : PN} (h : Tb s) (a b i : Int) : Tb (s.takeS a b i) := by
  unfold PN.takeS
  split
  · exact tb_cut h _ _ _
  · exact h
section
variable {C C' : Nat} {W w1 w2 w3 : World} {p q : Nat} {s t s' t' : PN} {Z : Nat → Prop}
theorem Ap2.offnew (h : Ap2 C W p q Z s t w1) (hb : Bel w1 w2) (hc : Ch (fun i => i = w1.heap.size) w2 w3) : Ap2 C W p q Z s t w3 := by
  obtain ⟨Z', h1, h2, h3⟩ := h
  exact ⟨Z', (h1.bel hb).ch hc (fun i a b => by have := h1.lt i a; omega), h2, (h3.bel hb).off hc h3.size⟩
/-- A call behind a block that was just made. -/
theorem Ap2.next {f : FuncId} {args : Array Value} {v : Value} {o : Obj} (h : Ap2 C W p q Z s t w1) (hb : Bel w1 w2) (hc : Ch (fun i => i = w1.heap.size) w2 w3) (hr : w3.heap[w1.heap.size]? = some o) (k : ∀ Z', Pr C w3 p q s t Z' → Calls Try.prog f args w3 fun e w' => e = .returned v ∧ Ap2 C' w3 p q Z' s' t' w') : Calls Try.prog f args w3 fun e w' => e = .returned v ∧ Ap2 C' W p q Z s' t' w' ∧ w'.heap[w1.heap.size]? = some o := by
  obtain ⟨Z', h1, h2, h3⟩ := h
  have h4 := (h1.bel hb).ch hc (fun i a b => by have := h1.lt i a; omega)
  have h5 := (h3.bel hb).off hc h3.size
  refine (k Z' h4).mono (fun e w' ⟨he, Z'', k1, k2, k3⟩ => ⟨he, ⟨Z'', k1, fun i hi => (k2 i hi).elim (h2 i) (fun h' => Or.inr (Nat.le_trans h5.size h')), h5.trans k3 h2⟩, k3.row hr (fun hz => by have := h1.lt _ hz; omega)⟩)
end
set_option maxRecDepth 100000 in
set_option maxHeartbeats 4000000 in
theorem does_take {C : Nat} {W : World} {p q : Nat} {s : PN} {Z : Nat → Prop} (h : Pr C W p q s s Z) (hC : C ≤ 800000) (tb : Tb s) (a b n : Int) (hn : n ≤ 9223372036854775807) (t : ByteArray) (sv : Option Addr) (sl sc : Nat) : Calls Try.prog 11 #[.pointer (some ⟨p, 0, none⟩), .pointer (some ⟨q, 0, none⟩), .agg #[.int .i64 1, .int .i64 a, .int .i64 b, .int .i64 n, .string t, .slice sv sl sc]] W fun e w' => e = .returned (.bool true) ∧ DoR C W p q Z w' := by
  have hbel : Bel W (W.alloc (.cells #[.int .i64 1, .int .i64 a, .int .i64 b, .int .i64 n, .string t, .slice sv sl sc] 34)) := (Bel.refl W).alloc _
  have hnew := at_new W (.cells #[.int .i64 1, .int .i64 a, .int .i64 b, .int .i64 n, .string t, .slice sv sl sc] 34)
  have HZ := hide h.lt
  generalize hW0 : W.alloc (.cells #[.int .i64 1, .int .i64 a, .int .i64 b, .int .i64 n, .string t, .slice sv sl sc] 34) = W0 at *
  have hpr := h.bel hbel
  have d0 : W0.cell? ⟨W.heap.size, 0, none⟩ = some (.int .i64 1) := cell_of hnew
  have d1 : W0.cell? ⟨W.heap.size, 1, none⟩ = some (.int .i64 a) := cell_of hnew
  have d2 : W0.cell? ⟨W.heap.size, 2, none⟩ = some (.int .i64 b) := cell_of hnew
  have d3 : W0.cell? ⟨W.heap.size, 3, none⟩ = some (.int .i64 n) := cell_of hnew
  have HKK : Hid (∀ w1 s1 t1, Ap2 (C + 1) W0 p q Z s1 t1 w1 → w1.heap[W.heap.size]? = some (.cells #[.int .i64 1, .int .i64 a, .int .i64 b, .int .i64 n, .string t, .slice sv sl sc] 34)) := hide (fun w1 s1 t1 ha => ha.row (unhide HZ) (Nat.le_refl _) hnew)
  have HP : Hid (Calls Try.prog 19 #[.pointer (some ⟨p, 0, none⟩), .int .i64 a, .int .i64 b, .int .i64 n] W0 fun e w' => e = .returned (.tuple #[pv (s.takeR a b n).1, .int .i64 (s.takeR a b n).2]) ∧ Ap2 (C + 1) W0 p q Z (s.takeS a b n) s w') := hide (hpr.prog (fun M h _ => take_any h (by omega) a b n))
  have HD : Hid (∀ w1 w2 w3 o, Ap2 (C + 1) W0 p q Z (s.takeS a b n) s w1 → Bel w1 w2 → Ch (fun i => i = w1.heap.size) w2 w3 → w3.heap[w1.heap.size]? = some o → Calls Try.prog 30 #[.pointer (some ⟨q, 0, none⟩), .int .i64 a, .int .i64 b, .int .i64 n] w3 fun e w' => e = .returned (.tuple #[pv (s.takeR a b n).1, .int .i64 (s.takeR a b n).2]) ∧ Ap2 (C + 1) W0 p q Z (s.takeS a b n) (s.takeS a b n) w' ∧ w'.heap[w1.heap.size]? = some o) := hide (fun w1 w2 w3 o ha hb hc hr => ha.next hb hc hr (fun Z' hz => hz.doc (fun K hk _ => takeD hk a b n hn)))
  have HFN : Hid (∀ w1 w2 w3, Ap2 (C + 1) W0 p q Z (s.takeS a b n) (s.takeS a b n) w1 → Bel w1 w2 → Ch (fun i => i = w1.heap.size) w2 w3 → DoR C W p q Z w3) := hide (fun w1 w2 w3 ha hb hc => ⟨_, tb_take tb a b n, (ha.offnew hb hc).from hbel⟩)
  have HB0 : Hid (W.heap.size < W0.heap.size) := hide (lt_of_some hnew)
  generalize hBB : W.heap.size = B at *
  clear h hbel hnew hpr tb
  obtain ⟨m, hm⟩ : ∃ m, m = (s.takeR a b n).1 := ⟨_, rfl⟩
  rw [← hm] at HP HD
  clear hm
  generalize (s.takeR a b n).2 = er at *
  generalize s.takeS a b n = s1 at *
  obtain ⟨m0, m1, m2⟩ := m
  simp only [pv] at HP HD
  go_enter Try.func11, Try.ntmps11
  go_wp2_with fail
  refine (unhide HP).mono ?_
  rintro e w1 ⟨rfl, hA1⟩
  have HA1 := hide hA1
  have HLT1 : Hid (B < w1.heap.size) := hide (lt_of_some ((unhide HKK) _ _ _ hA1))
  clear hA1 d0 d1 d2 d3
  go_wp2_with (first
    | (refine store_pk rfl _ _ rfl (at_new w1 _) (m0, m1, m2) rfl rfl ?_; intro W5 hr5 hc5; have hb5 := hc5.row (((Bel.refl w1).alloc (.cells #[.int .i64 0, .int .i64 0, .string ⟨#[]⟩] 46)).row ((unhide HKK) _ _ _ (unhide HA1))) (by have := unhide HLT1; omega); have e1 : W5.cell? ⟨B, 1, none⟩ = some (.int .i64 a) := cell_of hb5; have e2 : W5.cell? ⟨B, 2, none⟩ = some (.int .i64 b) := cell_of hb5; have e3 : W5.cell? ⟨B, 3, none⟩ = some (.int .i64 n) := cell_of hb5; have HD2 := hide ((unhide HD) _ _ _ _ (unhide HA1) ((Bel.refl w1).alloc _) hc5 hr5); clear hr5 hc5 hb5))
  refine (unhide HD2).mono ?_
  rintro e w6 ⟨rfl, hA2, hr6⟩
  have HA2 := hide hA2
  have HR6 := hide hr6
  clear hA2 hr6 e1 e2 e3
  go_wp2_with (first
    | (refine store_pk rfl _ _ rfl (at_new w6 _) (m0, m1, m2) rfl rfl ?_; intro W7 hr7 hc7; have hx7 := hc7.row (((Bel.refl w6).alloc (.cells #[.int .i64 0, .int .i64 0, .string ⟨#[]⟩] 46)).row (unhide HR6)) (by have := lt_of_some (unhide HR6); omega); have f0 : W7.cell? ⟨w1.heap.size, 0, none⟩ = some (.int .i64 m0) := cell_of hx7; have f1 : W7.cell? ⟨w1.heap.size, 1, none⟩ = some (.int .i64 m1) := cell_of hx7; have f2 : W7.cell? ⟨w1.heap.size, 2, none⟩ = some (.string m2) := cell_of hx7; have g0 : W7.cell? ⟨w6.heap.size, 0, none⟩ = some (.int .i64 m0) := cell_of hr7; have g1 : W7.cell? ⟨w6.heap.size, 1, none⟩ = some (.int .i64 m1) := cell_of hr7; have g2 : W7.cell? ⟨w6.heap.size, 2, none⟩ = some (.string m2) := cell_of hr7; have HF := hide ((unhide HFN) _ _ _ (unhide HA2) ((Bel.refl w6).alloc _) hc7); clear hr7 hc7 hx7))
  go_ret
  exact ⟨by simp, unhide HF⟩
end Go.Proofs.Ytbcgikkdhfbphaa
