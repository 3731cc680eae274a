/- A row copied by append to a row of nothing; slices.Clone of what is loose; the program's Copy. -/
import Derived.Test.YtpngcmlaimcceaaEqu
import Derived.Test.YtpngcmlaimcceaaDok
namespace Go.Proofs.Ytpngcmlaimcceaa
open Go.RowKit Go.Maps Go.WideMaps
set_option maxRecDepth 100000 in
/-- A row is copied behind a row of nothing. -/
theorem oper_copy {o : Oper} {a : Act} {K : Act → World → Prop} {Q : Exit → Act → World → Prop} {W : World} (s x : Operand) (t e : TypeId) (ho : o.op = .call { callee := .builtin .append, args := #[s, x], argTypes := #[t, t] })
    (i : TypeInfo) (z : Value) (size bytes : Nat) (ht : Try.prog.underlying t = some (.slice e)) (hi : Try.prog.info? e = some i) (hz : i.zero = some z) (hsize : i.size = size) (hby : i.bytes = bytes) (hzs : z.cells.size = size) (hsz : 0 < size)
    (base H : Nat) (hb : base ≤ H) (hHe : W.heap[H]? = some (.cells #[] e)) (hs : a.eval s = .slice (some ⟨H, 0, none⟩) 0 0) (v : Value) (n : Nat) (xs : List Value) (hx : a.eval x = v) (hr : W.ownsRow 0 e size v n xs) (h1 : ∀ u ∈ xs, u.oneCell' = true)
    (hn : n ≤ 100000) (hbytes : n * bytes ≤ 140737488355328)
    (hK : ∀ g cap w', w'.ownsRow base e size (.slice (some ⟨g, 0, none⟩) n cap) n xs → W.grownBy w' (some H) → (g = H ∨ g = W.heap.size) → g < w'.heap.size → K (a.put o.dst (.slice (some ⟨g, 0, none⟩) n cap)) w') : Oper.wp Try.prog o a W K Q := by
  have hlH : H < W.heap.size := lt_of_some hHe
  have hempty : W.ownsRow base e size (.slice (some ⟨H, 0, none⟩) 0 0) 0 [] := ⟨by simp, Or.inr ⟨H, 0, #[], rfl, hb, hHe, Nat.le_refl _, Nat.zero_le _, by simp, by simp⟩⟩
  by_cases h0 : n = 0
  · subst h0
    have hL : xs = [] := List.length_eq_zero_iff.1 (by have := hr.1; omega)
    subst hL
    have hk := hK H 0 W hempty (World.grownBy.refl _ _) (Or.inl rfl) hlH
    have hrun : ∀ ty, (Builtin.append_ #[t, t] ty #[.slice (some ⟨H, 0, none⟩) 0 0, v]).run Try.prog W = .ok (.slice (some ⟨H, 0, none⟩) 0 0) W := fun ty => by
      obtain ⟨ad, cap, rfl, _, _⟩ := own_shape hr
      refine run_append_nothing _ t t ty e i ht hi (some ⟨H, 0, none⟩) 0 0 (Nat.le_refl _) _ ⟨Or.inl ⟨e, ht⟩, fun w' => ?_, ?_, ?_, by simp, by simp⟩
      · cases ad <;> simp [Builtin.lenOf]
      · cases ad <;> simp [Builtin.firstCells, loadCells, loadCellsFrom]
      · cases ad <;> simp [Builtin.firstCells, loadCells, loadCellsFrom]
    unfold Oper.wp execOp
    simp only [ho, resolve, invoke, builtin, Sem.run_bind, Sem.run_pure, Result.andThen_ok, List.map_toArray, List.map_cons, List.map_nil, hs, hx, hrun]
    exact hk
  · rcases hr.2 with ⟨_, h2⟩ | ⟨g, cap, cur, rfl, _, hg, hc, _, hcs, htk⟩
    · exact absurd h2 h0
    refine wp_append_lies (P := Try.prog) W s x t ho base e i z size bytes ht hi hz hsize hby hzs hsz (.slice (some ⟨H, 0, none⟩) 0 0) 0 [] hs hempty ⟨g, 0, none⟩ n cap xs hx hr.1 (fun j u hu => ?_) h1 (by omega) (by unfold maxLen; omega) (by rw [Nat.zero_add]; exact hbytes) (by omega) _ rfl ?_
    · rw [Addr.add_lit, Nat.zero_add]
      have hj : j < n * size := by rw [← hr.1]; exact (List.getElem?_eq_some_iff.1 hu).1
      rw [World.ownsRow.cellAt hr j hj]
      exact hu
    · intro g' cap' w' hown hgrow hat hlt
      rw [Nat.zero_add, List.nil_append] at hown
      rw [Nat.zero_add]
      exact hK g' cap' w' hown hgrow (by rcases hat with h' | h'; left; cases h'; rfl; right; exact h') hlt
theorem eqi55 (d : Nat) (p : Option Addr) (n c : Nat) (w : World) : (Op.equalIn (d + 1) 55 (.slice p n c) (.slice none 0 0)).run Try.prog w = .ok p.isNone w := by
  cases p <;> simp [Op.equalIn, run_underlying Try.underlying55]
theorem eql55 (p : Option Addr) (n c : Nat) (w : World) : (binOp .eql 55 (.slice p n c) (.slice none 0 0)).run Try.prog w = .ok (.bool p.isNone) w := by
  simp only [binOp]
  simp [show Op.equal 55 (.slice p n c) (.slice none 0 0) = Op.equalIn (9999 + 1) 55 (.slice p n c) (.slice none 0 0) from rfl, eqi55 9999 p n c w]
theorem clo_one {w : World} {B : Nat → Prop} {f : Value} {o : Op5} (h : Clo w B f o) : f.oneCell' = true := by
  cases o using Op5.on with
  | app n t => obtain ⟨b, _, rfl⟩ := h; rfl
  | wr n t => obtain ⟨b, _, rfl⟩ := h; rfl
  | tr n k => obtain ⟨b, c, _, _, rfl⟩ := h; rfl
  | ren a n => obtain ⟨b, c, _, _, rfl⟩ := h; rfl
  | rm n => obtain ⟨b, _, rfl⟩ := h; rfl
theorem th_one {w : World} {B : Nat → Prop} : ∀ {r : List Op5} {cs : List Value}, Th w B r cs → ∀ u ∈ cs, u.oneCell' = true
  | [], _, h => by cases h; simp
  | o :: r, _, ⟨f, cr, h1, h2, h3⟩ => by
    subst h1
    intro u hu
    rcases List.mem_cons.1 hu with rfl | hu
    · rfl
    · rcases List.mem_cons.1 hu with rfl | hu
      · exact clo_one h2
      · exact th_one h3 u hu
set_option maxRecDepth 100000 in
set_option maxHeartbeats 1000000 in
theorem sclone_any (v : Value) (n : Nat) (xs : List Value) (w : World) (hr : w.ownsRow 0 73 2 v n xs) (h1 : ∀ u ∈ xs, u.oneCell' = true) (hn : n ≤ 100000) (he : n = 0 → v = .slice none 0 0) :
    Calls Try.prog 34 #[v] w fun e w' => ∃ v', e = .returned v' ∧ w'.ownsRow w.heap.size 73 2 v' n xs ∧ (n = 0 → v' = .slice none 0 0) ∧ Bel w w' := by
  by_cases h0 : n = 0
  · subst h0
    obtain rfl := he rfl
    have hL : xs = [] := List.length_eq_zero_iff.1 (by have := hr.1; omega)
    subst hL
    clear hr h1 he
    have hq := eql55 none 0 0
    go_enter Try.func34, Try.ntmps34
    go_wp2_with fail
    go_ret
    exact ⟨_, rfl, World.ownsRow_nil _ _ _ _, fun _ => rfl, Bel.refl w⟩
  · obtain ⟨i0, hi, hz0, hz1, hz2⟩ := Try.i73
    obtain ⟨ad, cap, rfl, _, h2⟩ := own_shape hr
    obtain ⟨g, rfl⟩ := h2 h0
    have HR := hide hr
    have H1 := hide h1
    clear hr h1 he h2
    have hq := eql55 (some ⟨g, 0, none⟩) n cap
    go_enter Try.func34, Try.ntmps34
    go_wp2_with (first
      | (at_builtin; refine wpList_plain rfl fun _ hKK => oper_copy _ _ 55 73 rfl i0 _ 2 24 Try.underlying55 hi hz0 hz1 hz2 rfl (by decide) w.heap.size w.heap.size (Nat.le_refl _) (at_new w _) rfl _ n xs rfl ((unhide HR).alloc _) (unhide H1) hn (by omega) fun g1 c1 w1 hown hgrow hat hlt => hKK _ _ ?_; have HOWN := hide hown; have HB : Hid (Bel w w1) := ((Bel.refl w).alloc (.cells #[] 73)).grown hgrow (by simp) (fun k hk => by cases hk; exact Nat.le_refl _); clear hown hgrow hat hlt)
      | go_in)
    go_ret
    exact ⟨_, rfl, unhide HOWN, fun h => absurd h h0, unhide HB⟩
theorem own_slice {w : World} {v : Value} {n base : Nat} {e : TypeId} {size : Nat} {cs : List Value} (h : w.ownsRow base e size v n cs) : ∃ a cap, v = .slice a n cap := by
  rcases h.2 with ⟨rfl, rfl⟩ | ⟨g, cap, cur, rfl, _⟩
  · exact ⟨none, 0, rfl⟩
  · exact ⟨_, cap, rfl⟩
theorem cell_al {w : World} {o : Obj} {p i : Nat} {v : Value} (h : w.cell? ⟨p, i, none⟩ = some v) : (w.alloc o).cell? ⟨p, i, none⟩ = some v := by
  have hp : p < w.heap.size := by
    rcases Nat.lt_or_ge p w.heap.size with h' | h'
    · exact h'
    · exfalso; simp [World.cell?, h'] at h
  unfold World.cell? at h ⊢
  rw [(MapKept.heap_alloc w o).2 p hp]
  exact h
theorem own_since {w : World} {v : Value} {n b b' : Nat} {e : TypeId} {size : Nat} {cs : List Value} (h : w.ownsRow b e size v n cs) (hb : b' ≤ b) : w.ownsRow b' e size v n cs := by
  refine ⟨h.1, ?_⟩
  rcases h.2 with h' | ⟨g, cap, cur, h1, h0, h2⟩
  · exact Or.inl h'
  · exact Or.inr ⟨g, cap, cur, h1, Nat.le_trans hb h0, h2⟩
theorem dk_copy {C : Nat} {w w4 w5 : World} {p : Nat} {d : PD} {M B : Nat → Prop} {b1 b2 : Nat} {v : Value} {cs : List Value} (h : Dk C w p d M B) (hth : Th w B d.ops cs) (hm1 : Mp w4 b1 d.seen) (hm2 : Mp w4 b2 d.synced) (hne : b1 ≠ b2) (f1 : w.heap.size ≤ b1) (f2 : w.heap.size ≤ b2) (hlo : w4.ownsRow w.heap.size 73 2 v d.ops.length cs) (hem : d.ops.length = 0 → v = .slice none 0 0) (hb : Bel w w4)
    (hw5 : w5 = w4.alloc (.cells #[.int .i64 d.room, .int .i64 (tot d.seen), .map (some b1), .map (some b2), v] 57)) :
    Dk C w5 w4.heap.size d (fun i => w.heap.size ≤ i ∧ i < w5.heap.size) B ∧ Bel w w5 := by
  have hb5 : Bel w w5 := by rw [hw5]; exact hb.alloc _
  have hb45 : Bel w4 w5 := by rw [hw5]; exact (Bel.refl _).alloc _
  have hs5 : w5.heap.size = w4.heap.size + 1 := by rw [hw5]; simp
  have hlo5 : w5.ownsRow 0 73 2 v d.ops.length cs := by
    have h5 := row_at hlo (w' := w5) (fun k hk => hb45.block k (hlo.lt k hk).2)
    refine ⟨h5.1, ?_⟩
    rcases h5.2 with h' | ⟨g, cap, cur, h1, _, h2⟩
    · exact Or.inl h'
    · exact Or.inr ⟨g, cap, cur, h1, Nat.zero_le _, h2⟩
  have hvb : ∀ k, v.ownBlock = some k → w.heap.size ≤ k ∧ k < w4.heap.size := fun k hk => hlo.lt k hk
  refine ⟨⟨⟨b1, b2, v, cs, ⟨by rw [hw5]; exact at_new w4 _, hm1.bel hb45, hm2.bel hb45, hlo5, hne, fun e => by have := hvb _ e; omega, hem⟩, hth.at (fun i hi => ⟨hi, hb5.block i (h.ltB i hi)⟩), ?_⟩, h.seen, h.val, fun i hi hB => by have := h.ltB i hB; omega, fun i hi => hi.2, fun i hi => Nat.lt_of_lt_of_le (h.ltB i hi) hb5.size, h.room⟩, hb5⟩
  have hsz := hb.size
  rintro i (rfl | rfl | rfl | hi)
  · exact ⟨hsz, by omega⟩
  · exact ⟨f1, by have := hm1.lt; omega⟩
  · exact ⟨f2, by have := hm2.lt; omega⟩
  · have := hvb i hi; exact ⟨this.1, by omega⟩
set_option maxRecDepth 100000 in
set_option maxHeartbeats 4000000 in
theorem copyp_any {C : Nat} {w : World} {p : Nat} {d : PD} {M B : Nat → Prop} (h : Dk C w p d M B) (hol : d.ops.length ≤ 100000) :
    Calls Try.prog 15 #[.pointer (some ⟨p, 0, none⟩)] w fun e w' => ∃ pc, e = .returned (.pointer (some ⟨pc, 0, none⟩)) ∧ Dk C w' pc d (fun i => w.heap.size ≤ i ∧ i < w'.heap.size) B ∧ Bel w w' := by
  obtain ⟨bs, bk, v, cs, hc, hth, hfp⟩ := h.co
  have hf := hide (fault_co hc)
  have hA := hide (mclone_any bs d.seen w.drew hc.ms)
  have hrow := hide hc.row
  have s0 : w.drew.cell? ⟨p, 0, none⟩ = some (.int .i64 d.room) := cell_of (unhide hrow)
  have s1 : w.drew.cell? ⟨p, 1, none⟩ = some (.int .i64 (tot d.seen)) := cell_of (unhide hrow)
  have s2 : w.drew.cell? ⟨p, 2, none⟩ = some (.map (some bs)) := cell_of (unhide hrow)
  have s3 : w.drew.cell? ⟨p, 3, none⟩ = some (.map (some bk)) := cell_of (unhide hrow)
  have s4 : w.drew.cell? ⟨p, 4, none⟩ = some v := cell_of (unhide hrow)
  have HC := hide hc
  have HTH := hide hth
  have H := hide h
  have hbd : Hid (Bel w w.drew) := (Bel.refl w).drew
  clear hc hth hfp h
  go_enter Try.func15, Try.ntmps15
  go_wp2_with (go_at_call 32; refine (unhide hf).mono ?_; rintro e w1 ⟨rfl, rfl⟩)
  go_region_held3 (fun W => W.cell? ⟨p, 0, none⟩ = some (.int .i64 d.room) ∧ W.cell? ⟨p, 1, none⟩ = some (.int .i64 (tot d.seen)) ∧ W.cell? ⟨p, 2, none⟩ = some (.map (some bs)) ∧ W.cell? ⟨p, 3, none⟩ = some (.map (some bk)) ∧ W.cell? ⟨p, 4, none⟩ = some v) (first | exact ⟨cell_al q0, cell_al q1, cell_al q2, cell_al q3, cell_al q4⟩ | exact ⟨q0, q1, q2, q3, q4⟩ | exact ⟨z0, z1, z2, z3, z4⟩ | exact ⟨y0, y1, y2, y3, y4⟩ | exact ⟨s0, s1, s2, s3, s4⟩) ((first
    | (go_at_call 33; refine (unhide hA).mono ?_; rintro e w2 ⟨rfl, hm2, hb2⟩; have hb2' := (unhide hbd).trans hb2; have hr2 := hb2'.row (unhide hrow); have y0 : w2.cell? ⟨p, 0, none⟩ = some (.int .i64 d.room) := cell_of hr2; have y1 : w2.cell? ⟨p, 1, none⟩ = some (.int .i64 (tot d.seen)) := cell_of hr2; have y2 : w2.cell? ⟨p, 2, none⟩ = some (.map (some bs)) := cell_of hr2; have y3 : w2.cell? ⟨p, 3, none⟩ = some (.map (some bk)) := cell_of hr2; have y4 : w2.cell? ⟨p, 4, none⟩ = some v := cell_of hr2; have hB := hide (mclone_any bk d.synced w2 ((unhide HC).my.bel hb2')); have HM2 := hide hm2; have HB2 := hide hb2'; clear hm2 hb2 hb2' hr2)
    | (go_at_call 33; refine (unhide hB).mono ?_; rintro e w3 ⟨rfl, hm3, hb3⟩; have hb3' := (unhide HB2).trans hb3; have hr3 := hb3'.row (unhide hrow); have z0 : w3.cell? ⟨p, 0, none⟩ = some (.int .i64 d.room) := cell_of hr3; have z1 : w3.cell? ⟨p, 1, none⟩ = some (.int .i64 (tot d.seen)) := cell_of hr3; have z2 : w3.cell? ⟨p, 2, none⟩ = some (.map (some bs)) := cell_of hr3; have z3 : w3.cell? ⟨p, 3, none⟩ = some (.map (some bk)) := cell_of hr3; have z4 : w3.cell? ⟨p, 4, none⟩ = some v := cell_of hr3; have hCl := hide (sclone_any v d.ops.length cs w3 (row_at (unhide HC).lo (fun k hk => hb3'.block k ((unhide HC).lo.lt k hk).2)) (th_one (unhide HTH)) hol (unhide HC).em); have HM3 := hide hm3; have HB3 := hide hb3; have HB3' := hide hb3'; clear hm3 hb3 hb3' hr3)
    | (go_at_call 34; refine (unhide hCl).mono ?_; rintro e w4 ⟨v', rfl, ho4, he4, hb4⟩; obtain ⟨a4, c4, rfl⟩ := own_slice ho4; have hb4' := (unhide HB3').trans hb4; have hr4 := hb4'.row (unhide hrow); have q0 : w4.cell? ⟨p, 0, none⟩ = some (.int .i64 d.room) := cell_of hr4; have q1 : w4.cell? ⟨p, 1, none⟩ = some (.int .i64 (tot d.seen)) := cell_of hr4; have q2 : w4.cell? ⟨p, 2, none⟩ = some (.map (some bs)) := cell_of hr4; have q3 : w4.cell? ⟨p, 3, none⟩ = some (.map (some bk)) := cell_of hr4; have q4 : w4.cell? ⟨p, 4, none⟩ = some v := cell_of hr4; have HO4 := hide ho4; have HE4 := hide he4; have HB4 := hide hb4; have HB4' := hide hb4'; clear ho4 he4 hb4 hb4' hr4)))
  go_wp2_with fail
  go_ret
  obtain ⟨r1, r2⟩ := dk_copy (unhide H) (unhide HTH) ((unhide HM2).bel ((unhide HB3).trans (unhide HB4))) ((unhide HM3).bel (unhide HB4)) (fun e => by have := (unhide HM2).lt; have := (unhide HB2).size; have e' : w1.heap.size = w2.heap.size := e; have h2 : w1.drew.heap.size < w2.heap.size := (unhide HM2).lt; have h3 : w1.drew.heap.size = w1.heap.size := rfl; omega) (Nat.le_refl _) (unhide HB2).size (own_since (unhide HO4) (unhide HB3').size) (unhide HE4) (unhide HB4') rfl
  exact ⟨_, rfl, r1, r2⟩
end Go.Proofs.Ytpngcmlaimcceaa
