/- A member's fields in its box. Down. -/
import Derived.Test.YthekbhliokcpcaaGreatCln
namespace Go.Proofs.YthekbhliokcpcaaGreat
open Go.RowKit Go.Maps Go.Sort
theorem Tryz.one26 : (Tryz.prog.info? 25).map (·.size) = some 1 := by kernel_rfl
theorem Tryz.one27 : (Tryz.prog.info? 26).map (·.size) = some 1 := by kernel_rfl
theorem Tryz.one3 : (Tryz.prog.info? 3).map (·.size) = some 1 := by kernel_rfl
theorem Tryz.one24 : (Tryz.prog.info? 22).map (·.size) = some 1 := by kernel_rfl
theorem Tryz.one28 : (Tryz.prog.info? 27).map (·.size) = some 1 := by kernel_rfl
theorem Tryz.one29 : (Tryz.prog.info? 28).map (·.size) = some 1 := by kernel_rfl
theorem Tryz.one30 : (Tryz.prog.info? 29).map (·.size) = some 1 := by kernel_rfl
theorem Ch.trans1 {b : Nat} {w1 w2 w3 : World} (h : Ch (fun k => k = b) w1 w2) (k : Ch (fun k => k = b) w2 w3) : Ch (fun k => k = b) w1 w3 := h.trans k (fun _ hi => Or.inl hi)
section
variable {ops : Array Oper} {rest : List Oper} {o : Oper} {a : Act} {Q : Exit → Act → World → Prop} {W : World} {n : Nat} {s : PP} {z : Px}
/-- A field is set. -/
theorem bx_fld (hgd : o.guard = none) (t : TypeId) (x y : Operand) (ho : o.op = .store t x y) (b i : Nat) (v : Value) (hx : a.eval x = .pointer (some ⟨b, i, none⟩)) (hy : a.eval y = v) (hv : v.cells = #[v]) (hv1 : v.oneCell' = true) {s' : PP} {z' : Px} (hg : W.heap[b]? = some (.cells (pc n s z) 31)) (hi : (Tryz.prog.info? t).map (·.size) = some 1) (hlt : i < 18) (e : (pc n s z).setIfInBounds i v = pc n s' z')
    (hK : ∀ w', w'.heap[b]? = some (.cells (pc n s' z') 31) → Ch (fun k => k = b) W w' → wpList Tryz.prog ops Q rest (a.put o.dst undef) w') : wpList Tryz.prog ops Q (o :: rest) a W :=
  bx_set hgd t x y ho b i v hx hy hv hv1 (pc n s z) 31 hg hi hlt (fun w' h1 h2 => hK w' (e ▸ h1) h2)
theorem fl_term (hgd : o.guard = none) (x y : Operand) (ho : o.op = .store 25 x y) (b : Nat) (v : Int) (hx : a.eval x = .pointer (some ⟨b, 2, none⟩)) (hy : a.eval y = .int .u64 v) (hg : W.heap[b]? = some (.cells (pc n s z) 31))
    (hK : ∀ w', w'.heap[b]? = some (.cells (pc n { s with term := v } z) 31) → Ch (fun k => k = b) W w' → wpList Tryz.prog ops Q rest (a.put o.dst undef) w') : wpList Tryz.prog ops Q (o :: rest) a W :=
  bx_fld hgd 25 x y ho b 2 _ hx hy rfl rfl hg Tryz.one26 (by decide) rfl hK
theorem fl_vote (hgd : o.guard = none) (x y : Operand) (ho : o.op = .store 3 x y) (b : Nat) (v : Int) (hx : a.eval x = .pointer (some ⟨b, 3, none⟩)) (hy : a.eval y = .int .i64 v) (hg : W.heap[b]? = some (.cells (pc n s z) 31))
    (hK : ∀ w', w'.heap[b]? = some (.cells (pc n { s with vote := v } z) 31) → Ch (fun k => k = b) W w' → wpList Tryz.prog ops Q rest (a.put o.dst undef) w') : wpList Tryz.prog ops Q (o :: rest) a W :=
  bx_fld hgd 3 x y ho b 3 _ hx hy rfl rfl hg Tryz.one3 (by decide) rfl hK
theorem fl_role (hgd : o.guard = none) (x y : Operand) (ho : o.op = .store 26 x y) (b : Nat) (v : Int) (hx : a.eval x = .pointer (some ⟨b, 4, none⟩)) (hy : a.eval y = .int .u8 v) (hg : W.heap[b]? = some (.cells (pc n s z) 31))
    (hK : ∀ w', w'.heap[b]? = some (.cells (pc n { s with role := v } z) 31) → Ch (fun k => k = b) W w' → wpList Tryz.prog ops Q rest (a.put o.dst undef) w') : wpList Tryz.prog ops Q (o :: rest) a W :=
  bx_fld hgd 26 x y ho b 4 _ hx hy rfl rfl hg Tryz.one27 (by decide) rfl hK
theorem fl_lead (hgd : o.guard = none) (x y : Operand) (ho : o.op = .store 3 x y) (b : Nat) (v : Int) (hx : a.eval x = .pointer (some ⟨b, 5, none⟩)) (hy : a.eval y = .int .i64 v) (hg : W.heap[b]? = some (.cells (pc n s z) 31))
    (hK : ∀ w', w'.heap[b]? = some (.cells (pc n { s with lead := v } z) 31) → Ch (fun k => k = b) W w' → wpList Tryz.prog ops Q rest (a.put o.dst undef) w') : wpList Tryz.prog ops Q (o :: rest) a W :=
  bx_fld hgd 3 x y ho b 5 _ hx hy rfl rfl hg Tryz.one3 (by decide) rfl hK
theorem fl_idle (hgd : o.guard = none) (x y : Operand) (ho : o.op = .store 3 x y) (b : Nat) (v : Int) (hx : a.eval x = .pointer (some ⟨b, 12, none⟩)) (hy : a.eval y = .int .i64 v) (hg : W.heap[b]? = some (.cells (pc n s z) 31))
    (hK : ∀ w', w'.heap[b]? = some (.cells (pc n { s with idle := v } z) 31) → Ch (fun k => k = b) W w' → wpList Tryz.prog ops Q rest (a.put o.dst undef) w') : wpList Tryz.prog ops Q (o :: rest) a W :=
  bx_fld hgd 3 x y ho b 12 _ hx hy rfl rfl hg Tryz.one3 (by decide) rfl hK
theorem fl_wait (hgd : o.guard = none) (x y : Operand) (ho : o.op = .store 3 x y) (b : Nat) (v : Int) (hx : a.eval x = .pointer (some ⟨b, 13, none⟩)) (hy : a.eval y = .int .i64 v) (hg : W.heap[b]? = some (.cells (pc n s z) 31))
    (hK : ∀ w', w'.heap[b]? = some (.cells (pc n { s with wait := v } z) 31) → Ch (fun k => k = b) W w' → wpList Tryz.prog ops Q rest (a.put o.dst undef) w') : wpList Tryz.prog ops Q (o :: rest) a W :=
  bx_fld hgd 3 x y ho b 13 _ hx hy rfl rfl hg Tryz.one3 (by decide) rfl hK
theorem fl_votes (hgd : o.guard = none) (x y : Operand) (ho : o.op = .store 22 x y) (b : Nat) (v : Option Addr) (L : List Int) (c : Nat) (hx : a.eval x = .pointer (some ⟨b, 14, none⟩)) (hy : a.eval y = .slice v L.length c) (hg : W.heap[b]? = some (.cells (pc n s z) 31))
    (hK : ∀ w', w'.heap[b]? = some (.cells (pc n { s with votes := L } { z with aV := v, cV := c }) 31) → Ch (fun k => k = b) W w' → wpList Tryz.prog ops Q rest (a.put o.dst undef) w') : wpList Tryz.prog ops Q (o :: rest) a W :=
  bx_fld hgd 22 x y ho b 14 _ hx hy rfl rfl hg Tryz.one24 (by decide) rfl hK
theorem fl_fol (hgd : o.guard = none) (x y : Operand) (ho : o.op = .store 28 x y) (b : Nat) (v : Option Addr) (L : List (Int × Int × Int)) (c : Nat) (hx : a.eval x = .pointer (some ⟨b, 15, none⟩)) (hy : a.eval y = .slice v L.length c) (hg : W.heap[b]? = some (.cells (pc n s z) 31))
    (hK : ∀ w', w'.heap[b]? = some (.cells (pc n { s with fol := L } { z with aF := v, cF := c }) 31) → Ch (fun k => k = b) W w' → wpList Tryz.prog ops Q rest (a.put o.dst undef) w') : wpList Tryz.prog ops Q (o :: rest) a W :=
  bx_fld hgd 28 x y ho b 15 _ hx hy rfl rfl hg Tryz.one29 (by decide) rfl hK
theorem fl_log (hgd : o.guard = none) (x y : Operand) (ho : o.op = .store 27 x y) (b : Nat) (v : Option Addr) (L : List PE) (c : Nat) (hx : a.eval x = .pointer (some ⟨b, 10, none⟩)) (hy : a.eval y = .slice v L.length c) (hg : W.heap[b]? = some (.cells (pc n s z) 31))
    (hK : ∀ w', w'.heap[b]? = some (.cells (pc n { s with log := L } { z with aL := v, cL := c }) 31) → Ch (fun k => k = b) W w' → wpList Tryz.prog ops Q rest (a.put o.dst undef) w') : wpList Tryz.prog ops Q (o :: rest) a W :=
  bx_fld hgd 27 x y ho b 10 _ hx hy rfl rfl hg Tryz.one28 (by decide) rfl hK
theorem fl_reads (hgd : o.guard = none) (x y : Operand) (ho : o.op = .store 29 x y) (b : Nat) (v : Option Addr) (c : Nat) (hx : a.eval x = .pointer (some ⟨b, 17, none⟩)) (hy : a.eval y = .slice v 0 c) (hg : W.heap[b]? = some (.cells (pc n s z) 31))
    (hK : ∀ w', w'.heap[b]? = some (.cells (pc n s { z with aR := v, cR := c }) 31) → Ch (fun k => k = b) W w' → wpList Tryz.prog ops Q rest (a.put o.dst undef) w') : wpList Tryz.prog ops Q (o :: rest) a W :=
  bx_fld hgd 29 x y ho b 17 _ hx hy rfl rfl hg Tryz.one30 (by decide) rfl hK
end
end Go.Proofs.YthekbhliokcpcaaGreat
namespace Go.Proofs.YthekbhliokcpcaaGreat
open Go.RowKit Go.Maps Go.Sort
/-- A member as a value; its log's slice is as long as it may be. -/
structure Pq (W : World) (n : Nat) (s : PP) (x : Px) : Prop where
  pw : Pw W n s x
  cap : s.log.length ≤ x.cL
theorem Pq.bel {W W' : World} {n : Nat} {s : PP} {x : Px} (h : Pq W n s x) (hb : Bel W W') : Pq W' n s x := ⟨h.pw.bel hb, h.cap⟩
theorem Pf.pq {base : Nat} {W : World} {n : Nat} {s : PP} {x : Px} (h : Pf base W n s x) : Pq W n s x := ⟨h.pw, (Sl.of h.l).2.2⟩
theorem Ok.lens {n T G : Nat} {s : PP} (h : Ok n T G s) (hn : n ≤ 64) : s.votes.length ≤ 1000000 ∧ s.fol.length ≤ 1000000 := by
  refine ⟨by have := ris_le n s.votes h.vr.nodup h.vm; omega, ?_⟩
  rcases h.role with ⟨_, _, e⟩ | ⟨_, _, _, _, e⟩ | ⟨_, _, _, _, _, e, _⟩
  · rw [e]; simp
  · rw [e]; simp
  · have h1 : (s.fol.map (·.1)).length = (oth n s.id).length := by rw [e]
    rw [List.length_map] at h1
    have h2 : (oth n s.id).length ≤ (mem n).length := List.length_filter_le _ _
    rw [mem_len] at h2
    omega
end Go.Proofs.YthekbhliokcpcaaGreat
