/- The library's Clone, at texts and at machines. -/
import Derived.Test.YtbcgikkdhfbphaaSnd
import Derived.Test.YtbcgikkdhfbphaaWai
namespace Go.Proofs.Ytbcgikkdhfbphaa
open Go.RowKit Go.Maps
/-- Rows of texts. -/
def E9 : El ByteArray := { enc := fun x => [.string x], k := 1, e := 9, t := 87, bytes := 16, z := .string ⟨#[]⟩, hk := by decide, len := fun _ => rfl, one := fun x u hu => by simp at hu; rw [hu]; rfl, ht := Try.underlying87, hi := by kernel_rfl, hz := rfl, hb := by decide }
/-- Rows of machines. -/
def E67 : El Mc := { enc := fun x => [.int .i64 x.1, .int .u64 x.2.1, .bool x.2.2], k := 3, e := 67, t := 64, bytes := 24, z := .agg #[.int .i64 0, .int .u64 0, .bool false], hk := by decide, len := fun _ => rfl, one := fun x u hu => by simp at hu; rcases hu with rfl | rfl | rfl <;> rfl, ht := Try.underlying64, hi := by kernel_rfl, hz := rfl, hb := by decide }
/-- append of a row to another one. -/
theorem app_el {α : Type} {E : El α} {ops : Array Oper} {rest : List Oper} {o : Oper} {a : Act} {Q : Exit → Act → World → Prop} {W : World} {base : Nat} {v : Value} {L : List α} (N : List α) (h : E.O base W v L) (hbase : base ≤ W.heap.size) (ad : Option Addr) (g off cap n : Nat) (hn : N.length = n) (ha : n ≠ 0 → ad = some ⟨g, off, none⟩) (hN : E.R W g off N) (hb : L.length + N.length ≤ 1000000000000)
    (hgd : o.guard = none) (s y : Operand) (t : TypeId) (ht : t = E.t) (ho : o.op = .call { callee := .builtin .append, args := #[s, y], argTypes := #[t, t] }) (hs : a.eval s = v) (hy : a.eval y = .slice ad n cap)
    (hK : ∀ v' w', E.O base w' v' (L ++ N) → W.grownBy w' v.ownBlock → wpList Try.prog ops Q rest (a.put o.dst v') w') : wpList Try.prog ops Q (o :: rest) a W := by
  subst hn ht
  refine wpList_plain hgd fun K hK' => ?_
  obtain ⟨v', w', hrun, r1, r2, r3⟩ := El.run_app (E := E) W base v L N h hbase ad g off cap ha hN hb o.type
  unfold Oper.wp execOp
  simp only [ho, resolve, invoke, builtin, Sem.run_bind, Sem.run_pure, Result.andThen_ok, List.map_toArray, List.map_cons, List.map_nil, hs, hy, hrun]
  exact hK' _ _ (hK v' w' r1 r2)
/-- A row of nothing that was just made. -/
theorem El.O.made {α : Type} {E : El α} (W : World) : E.O W.heap.size (W.alloc (.cells #[] E.e)) (.slice (some ⟨W.heap.size, 0, none⟩) 0 0) [] := ⟨by simp [El.fl], Or.inr ⟨W.heap.size, 0, #[], rfl, Nat.le_refl _, at_new W _, Nat.le_refl _, Nat.zero_le _, by simp, by simp [El.fl]⟩⟩
theorem eql87 (ad : Addr) (n cap : Nat) (W : World) : (binOp BinOp.eql 87 (.slice (some ad) n cap) (.slice none 0 0)).run Try.prog W = .ok (.bool false) W := by
  simp only [binOp]
  simp [Op.equal, Op.maxDepth, Lib.run_equalIn_slice_nil W 9999 87 _ (some ad) n cap 0 0 Try.underlying87]
theorem eql64 (ad : Addr) (n cap : Nat) (W : World) : (binOp BinOp.eql 64 (.slice (some ad) n cap) (.slice none 0 0)).run Try.prog W = .ok (.bool false) W := by
  simp only [binOp]
  simp [Op.equal, Op.maxDepth, Lib.run_equalIn_slice_nil W 9999 64 _ (some ad) n cap 0 0 Try.underlying64]
set_option maxRecDepth 100000 in
set_option maxHeartbeats 1000000 in
theorem clone9 {W : World} {g off n cap : Nat} {l : List ByteArray} (hn : l.length = n) (hR : E9.R W g off l) (hl : l.length ≤ 100000) : Calls Try.prog 38 #[.slice (some ⟨g, off, none⟩) n cap] W fun e w' => ∃ v, e = .returned v ∧ E9.O W.heap.size w' v l ∧ Bel W w' := by
  have HR := hide hR
  have HN := hide hn
  have HL := hide hl
  clear hR hn hl
  have hq := eql87 ⟨g, off, none⟩ n cap
  go_enter Try.func38, Try.ntmps38
  go_wp2_with (first
    | (at_builtin; refine app_el (E := E9) (L := []) l (El.O.made W) (by simp) (some ⟨g, off, none⟩) g off cap n (unhide HN) (fun _ => rfl) ((unhide HR).bel ((Bel.refl W).alloc _)) (by have := unhide HL; simp; omega) rfl _ _ 87 rfl rfl rfl rfl ?_; intro v' w' ho hg; rw [List.nil_append] at ho; obtain ⟨a', c', g', hv', _, _, _⟩ := ho.shape; subst hv'; have HF := hide (And.intro ho (bel_grown ((Bel.refl W).alloc _) hg (fun z hz => by cases hz; exact Nat.le_refl _))); clear ho hg))
  go_ret
  exact ⟨_, rfl, (unhide HF).1, (unhide HF).2⟩
set_option maxRecDepth 100000 in
set_option maxHeartbeats 1000000 in
theorem clone67 {W : World} {g off n cap : Nat} {l : List Mc} (hn : l.length = n) (hR : E67.R W g off l) (hl : l.length ≤ 100000) : Calls Try.prog 39 #[.slice (some ⟨g, off, none⟩) n cap] W fun e w' => ∃ v, e = .returned v ∧ E67.O W.heap.size w' v l ∧ Bel W w' := by
  have HR := hide hR
  have HN := hide hn
  have HL := hide hl
  clear hR hn hl
  have hq := eql64 ⟨g, off, none⟩ n cap
  go_enter Try.func39, Try.ntmps39
  go_wp2_with (first
    | (at_builtin; refine app_el (E := E67) (L := []) l (El.O.made W) (by simp) (some ⟨g, off, none⟩) g off cap n (unhide HN) (fun _ => rfl) ((unhide HR).bel ((Bel.refl W).alloc _)) (by have := unhide HL; simp; omega) rfl _ _ 64 rfl rfl rfl rfl ?_; intro v' w' ho hg; rw [List.nil_append] at ho; obtain ⟨a', c', g', hv', _, _, _⟩ := ho.shape; subst hv'; have HF := hide (And.intro ho (bel_grown ((Bel.refl W).alloc _) hg (fun z hz => by cases hz; exact Nat.le_refl _))); clear ho hg))
  go_ret
  exact ⟨_, rfl, (unhide HF).1, (unhide HF).2⟩
end Go.Proofs.Ytbcgikkdhfbphaa
