/- trim.cutOff of any member. -/
import Derived.Test.YthekbhliokcpcaaGreatHct
import Derived.Test.YthekbhliokcpcaaGreatHze
import Derived.Test.YthekbhliokcpcaaGreatHfo
namespace Go.Proofs.YthekbhliokcpcaaGreat
open Go.RowKit Go.Maps Go.Sort
theorem any_skp {ops : Array Oper} {Q : Exit → Act → World → Prop} {md : Region.Mode} {S : World → Prop} {i : Nat} {o : Oper} {fuel : Nat} {listed : Array Bool} {a : Act} {w w' : World} (hr : Region.ready md ops listed = [i]) (hi : ops[i]? = some o) (hw : Region.wanted o (yielded ops a.tmps) = true) (hrun : (execOp a.eval o).run Tryz.prog w = .ok .skip w')
    (hK : S w' ∧ wpAnyH Tryz.prog md ops Q S fuel (listed.setIfInBounds i true) (a.put o.dst undef) w') : wpAnyH Tryz.prog md ops Q S (fuel + 1) listed a w := by
  refine wpAnyH_all hr (by simp) (fun j hj => ?_)
  rw [List.mem_singleton.1 hj]
  unfold wpOp
  simp only [hi, hw, if_true, Oper.wp, hrun, Oper.upon_skip]
  exact .inl hK
/-- A field of a boxed struct is written, where that is what is left to come up. -/
theorem any_stc {ops : Array Oper} {Q : Exit → Act → World → Prop} {md : Region.Mode} {S : World → Prop} {i : Nat} {o : Oper} {fuel : Nat} {listed : Array Bool} {a : Act} {w : World} {t ty : TypeId} {x y : Operand} {b p : Nat} {v : Value} {cs : Array Value} (hr : Region.ready md ops listed = [i]) (hi : ops[i]? = some o) (hw : Region.wanted o (yielded ops a.tmps) = true) (ho : o.op = .store t x y) (hx : a.eval x = .pointer (some ⟨b, p, none⟩)) (hy : a.eval y = v) (hv : v.cells = #[v]) (hv1 : v.oneCell' = true) (hg : w.heap[b]? = some (.cells cs ty)) (hs : (Tryz.prog.info? t).map (·.size) = some 1) (hlt : p < cs.size)
    (hK : ∀ w', w'.heap[b]? = some (.cells (cs.setIfInBounds p v) ty) → Ch (fun k => k = b) w w' → S w' ∧ wpAnyH Tryz.prog md ops Q S fuel (listed.setIfInBounds i true) (a.put o.dst undef) w') : wpAnyH Tryz.prog md ops Q S (fuel + 1) listed a w := by
  have hrun := run_storeCells_at (P := Tryz.prog) b p ty [v] 0 cs w hg (by simp; omega) (fun u hu => by simp at hu; rw [hu]; exact hv1)
  have e : (cs.toList.take (p + 0) ++ [v] ++ cs.toList.drop (p + 0 + [v].length)).toArray = cs.setIfInBounds p v := by
    apply Array.ext'
    simp only [Array.toList_setIfInBounds, Nat.add_zero, List.length_cons, List.length_nil, Nat.zero_add]
    rw [List.set_eq_take_append_cons_drop, if_pos (by simpa using hlt)]
    simp
  rw [e] at hrun
  refine any_skp (w' := w.setRow b (cs.setIfInBounds p v)) hr hi hw ?_ (hK _ (ch_row hg).1 (ch_row hg).2)
  unfold execOp
  cases hq : Tryz.prog.info? t with
  | none => rw [hq] at hs; simp at hs
  | some j =>
    have hs1 : j.size = 1 := by rw [hq] at hs; simpa using hs
    have hrun2 : (storeVar t ⟨b, p, none⟩ v).run Tryz.prog w = .ok () (w.setRow b (cs.setIfInBounds p v)) := by
      simp [storeVar, sizeOf, typeInfo, hq, hv, hs1, hrun]
    simp only [ho, hx, hy, Instr.storeAt, Instr.sureAddr, Sem.run_bind, Sem.run_pure, Result.andThen_ok, hrun2]
/-- A member whose log begins behind a snapshot. -/
def GP.cut (s : GP) (i t : Int) (B : List Int) (d : ByteArray) (l : List GE) : GP := { s with base := i, baseT := t, B := B, snap := d, log := l, M := memOf B l }
/-- A snapshot's cells. -/
def snc (i t : Int) (B : List Int) (aB : Option Addr) (cB : Nat) (d : ByteArray) : Array Value := #[.int .u64 i, .int .u64 t, .slice aB B.length cB, .string d]
theorem Tryz.sizeS (i t : Int) (B : List Int) (aB : Option Addr) (cB : Nat) (d : ByteArray) : (Tryz.prog.info? 135).map (·.size) = some (snc i t B aB cB d).size := by kernel_rfl
set_option maxRecDepth 100000 in
set_option maxHeartbeats 8000000 in
theorem cut_g {W : World} {s : GP} {x : Px} {i t : Int} {aB : Option Addr} {cB : Nat} {B : List Int} {d : ByteArray} {aL : Option Addr} {cL : Nat} {l : List GE} (hB : Sl E3 W aB B) (hl : SlG W aL l) (hi : 0 ≤ i ∧ i ≤ 4611686018427387904) (hn : l.length ≤ 1000000) (hc : l.length ≤ cL) (hB2 : B.length ≤ 17592186044416) (hm : ∀ e ∈ l, e.m.length ≤ 17592186044416) : Calls Tryz.prog 76 #[.agg (gc s x), .agg (snc i t B aB cB d), .slice aL l.length cL] W fun e w' => ∃ aM cM, e = .returned (.agg (gc (s.cut i t B d l) { x with aB := aB, cB := cB, aL := aL, cL := cL, aM := aM, cM := cM })) ∧ E3.O W.heap.size w' (.slice aM (memOf B l).length cM) (memOf B l) ∧ Bel W w' := by
  obtain ⟨s1, hs1⟩ : ∃ s1 : GP, s1 = { s with base := i, baseT := t, B := B, snap := d } := ⟨_, rfl⟩
  obtain ⟨x1, hx1⟩ : ∃ x1 : Px, x1 = { x with aB := aB, cB := cB } := ⟨_, rfl⟩
  obtain ⟨s2, hs2⟩ : ∃ s2 : GP, s2 = { s1 with log := l } := ⟨_, rfl⟩
  obtain ⟨x2, hx2⟩ : ∃ x2 : Px, x2 = { x1 with aL := aL, cL := cL } := ⟨_, rfl⟩
  have e1 : ((((gc s x).setIfInBounds 6 (.int .u64 i)).setIfInBounds 7 (.int .u64 t)).setIfInBounds 8 (.slice aB B.length cB)).setIfInBounds 9 (.string d) = gc s1 x1 := by rw [hs1, hx1]; rfl
  have e2 : (gc s1 x1).setIfInBounds 10 (.slice aL l.length cL) = gc s2 x2 := by rw [hs2, hx2]; rfl
  have e3 : ∀ aM cM, (gc s2 x2).setIfInBounds 1 (.slice aM (memOf B l).length cM) = gc (s.cut i t B d l) { x with aB := aB, cB := cB, aL := aL, cL := cL, aM := aM, cM := cM } := fun aM cM => by rw [hs2, hx2, hs1, hx1]; rfl
  have HA : Hid (∀ W', Bel W W' → Calls Tryz.prog 79 #[.agg (gc s2 x2)] W' fun e w' => e = .returned (.tuple #[.int .u64 (i + l.length), .int .u64 s2.lastT]) ∧ Bel W' w') := hide (fun W' hb => by
    have := last_g (s := s2) (x := x2) (W := W') (by rw [hs2, hx2]; exact hl.bel hb) (by rw [hs2, hs1]; exact hi.1) (by rw [hs2, hs1]; exact hi.2) (by rw [hs2]; exact hn)
    rwa [show s2.lastI = i + l.length by rw [hs2, hs1]; rfl] at this)
  have HM : Hid (∀ W', Bel W W' → Calls Tryz.prog 75 #[.agg (gc s2 x2), .int .u64 (i + l.length)] W' fun e w' => ∃ a' c', e = .returned (.slice a' (memOf B l).length c') ∧ E3.O W.heap.size w' (.slice a' (memOf B l).length c') (memOf B l) ∧ Bel W' w') := hide (fun W' hb => by
    have := membs_g (s := s2) (x := x2) (W := W') (by rw [hs2, hx2]; exact hl.bel hb) (by rw [hs2, hs1, hx2, hx1]; exact hB.bel hb) (i + l.length) (by rw [hs2, hs1]; exact hi.1) (by omega) (by rw [hs2]; exact hn) (by rw [hs2, hx2]; exact hc) (by rw [hs2, hs1]; exact hB2) (by rw [hs2]; exact hm)
    have em : s2.mAt (i + l.length) = memOf B l := by
      have eu : s2.upTo (i + l.length) = some l.length := by
        unfold GP.upTo
        rw [show s2.base = i by rw [hs2, hs1], show s2.log = l by rw [hs2], if_neg (by omega), show (i + (l.length : Int) - i).toNat = l.length by omega]
      unfold GP.mAt
      rw [eu]
      show memOf s2.B (s2.log.take l.length) = _
      rw [show s2.log = l by rw [hs2], List.take_length, show s2.B = B by rw [hs2, hs1]]
    rw [em] at this
    exact this.mono (fun e w' ⟨a', c', he, ho, hb'⟩ => ⟨a', c', he, ho.mono hb.size, hb'⟩))
  clear hB hl hi hn hc hB2 hm hs1 hs2 hx1 hx2
  generalize i + (l.length : Int) = li at *
  generalize s2.lastT = lt at *
  generalize memOf B l = MB at *
  generalize s.cut i t B d l = sc at *
  generalize l.length = nl at *
  go_enter Tryz.func76, Tryz.ntmps76
  go_wp2_with (first
    | (refine bx_box rfl 31 _ rfl (gc s x) rfl ?_; intro b w0 hr0 hs0 hb0; have HR0 := hide hr0; have HB0 := hide (And.intro hb0 (Nat.le_of_eq hs0)); clear hr0 hs0 hb0)
    | (refine bx_box rfl 135 _ rfl (snc i t B aB cB d) rfl ?_; intro b4 w1 hr1 hs1 hb1; have HR4 := hide hr1; have HN4 : Hid (b4 ≠ b) := hide (fun e => by have := lt_of_some (unhide HR0); omega); replace HR0 := hide (hb1.row (unhide HR0)); replace HB0 := hide (And.intro ((unhide HB0).1.trans hb1) (unhide HB0).2); clear hr1 hs1 hb1)
    | (refine bx_new rfl 31 rfl _ Tryz.zeroP ?_; intro b6 w2 hr2 hs2 hb2; have HR6 := hide hr2; have HN6 : Hid (b6 ≠ b ∧ W.heap.size ≤ b6) := hide ⟨fun e => by have := lt_of_some (unhide HR0); omega, by have := (unhide HB0).1.size; omega⟩; replace HR4 := hide (hb2.row (unhide HR4)); replace HR0 := hide (hb2.row (unhide HR0)); replace HB0 := hide (And.intro ((unhide HB0).1.trans hb2) (unhide HB0).2); clear hr2 hs2 hb2))
  refine wp_region_held_drew (S := fun W => W.heap[b4]? = some (.cells (snc i t B aB cB d) 135)) Tryz.follows (unhide HR4) (fun hS => ?_)
  refine any_take (i := 0) (v := .pointer (some ⟨b4, 0, none⟩)) rfl (by kernel_rfl) (by kernel_rfl) (by kernel_rfl) (fun _ _ _ h => h) rfl hS (fun w _ => by go_simp) ?_
  refine any_take (i := 1) (v := .int .u64 i) rfl (by kernel_rfl) (by kernel_rfl) (by kernel_rfl) (fun _ _ _ h => h) rfl hS (fun w hw => by have hq : w.cell? ⟨b4, 0, none⟩ = some (.int .u64 i) := cell_of hw; go_simp) ?_
  refine any_take (i := 2) (v := .pointer (some ⟨b4, 1, none⟩)) rfl (by kernel_rfl) (by kernel_rfl) (by kernel_rfl) (fun _ _ _ h => h) rfl hS (fun w _ => by go_simp) ?_
  refine any_take (i := 3) (v := .int .u64 t) rfl (by kernel_rfl) (by kernel_rfl) (by kernel_rfl) (fun _ _ _ h => h) rfl hS (fun w hw => by have hq : w.cell? ⟨b4, 1, none⟩ = some (.int .u64 t) := cell_of hw; go_simp) ?_
  refine any_take (i := 4) (v := .pointer (some ⟨b4, 2, none⟩)) rfl (by kernel_rfl) (by kernel_rfl) (by kernel_rfl) (fun _ _ _ h => h) rfl hS (fun w _ => by go_simp) ?_
  refine any_take (i := 5) (v := .slice aB B.length cB) rfl (by kernel_rfl) (by kernel_rfl) (by kernel_rfl) (fun _ _ _ h => h) rfl hS (fun w hw => by have hq : w.cell? ⟨b4, 2, none⟩ = some (.slice aB B.length cB) := cell_of hw; go_simp) ?_
  refine any_take (i := 6) (v := .pointer (some ⟨b4, 3, none⟩)) rfl (by kernel_rfl) (by kernel_rfl) (by kernel_rfl) (fun _ _ _ h => h) rfl hS (fun w _ => by go_simp) ?_
  refine any_take (i := 7) (v := .string d) rfl (by kernel_rfl) (by kernel_rfl) (by kernel_rfl) (fun _ _ _ h => h) rfl hS (fun w hw => by have hq : w.cell? ⟨b4, 3, none⟩ = some (.string d) := cell_of hw; go_simp) ?_
  refine any_take (i := 8) (v := .pointer (some ⟨b, 6, none⟩)) rfl (by kernel_rfl) (by kernel_rfl) (by kernel_rfl) (fun _ _ _ h => h) rfl hS (fun w _ => by go_simp) ?_
  refine any_stc (i := 9) (b := b) (p := 6) (v := .int .u64 i) (by kernel_rfl) rfl rfl rfl (by go_simp) (by go_simp) rfl rfl (unhide HR0) (by kernel_rfl) (by simp [gc]) ?_
  intro w3 hr3 hc3
  have hS := hc3.row hS (unhide HN4)
  refine ⟨hS, ?_⟩
  refine any_take (i := 10) (v := .pointer (some ⟨b, 7, none⟩)) rfl (by kernel_rfl) (by kernel_rfl) (by kernel_rfl) (fun _ _ _ h => h) rfl hS (fun w _ => by go_simp) ?_
  refine any_stc (i := 11) (b := b) (p := 7) (v := .int .u64 t) (by kernel_rfl) rfl rfl rfl (by go_simp) (by go_simp) rfl rfl hr3 (by kernel_rfl) (by simp [gc]) ?_
  intro w4 hr4 hc4
  have hS := hc4.row hS (unhide HN4)
  refine ⟨hS, ?_⟩
  refine any_take (i := 12) (v := .pointer (some ⟨b, 8, none⟩)) rfl (by kernel_rfl) (by kernel_rfl) (by kernel_rfl) (fun _ _ _ h => h) rfl hS (fun w _ => by go_simp) ?_
  refine any_stc (i := 13) (b := b) (p := 8) (v := .slice aB B.length cB) (by kernel_rfl) rfl rfl rfl (by go_simp) (by go_simp) rfl rfl hr4 (by kernel_rfl) (by simp [gc]) ?_
  intro w5 hr5 hc5
  have hS := hc5.row hS (unhide HN4)
  refine ⟨hS, ?_⟩
  refine any_take (i := 14) (v := .pointer (some ⟨b, 9, none⟩)) rfl (by kernel_rfl) (by kernel_rfl) (by kernel_rfl) (fun _ _ _ h => h) rfl hS (fun w _ => by go_simp) ?_
  refine any_stc (i := 15) (b := b) (p := 9) (v := .string d) (by kernel_rfl) rfl rfl rfl (by go_simp) (by go_simp) rfl rfl hr5 (by kernel_rfl) (by simp [gc]) ?_
  intro w6 hr6 hc6
  have hS := hc6.row hS (unhide HN4)
  refine ⟨hS, ?_⟩
  refine wpAnyH_done (by kernel_rfl) ?_ _
  rw [e1] at hr6
  have hcc : Ch (fun k => k = b) w2.drew w6 := ((hc3.trans hc4 (fun _ h => Or.inl h)).trans hc5 (fun _ h => Or.inl h)).trans hc6 (fun _ h => Or.inl h)
  have HR0 := hide hr6
  have HR6 := hide (hcc.row (unhide HR6) (unhide HN6).1)
  have HB0 := hide (And.intro (bel_off (unhide HB0).1.drew hcc (unhide HB0).2) (unhide HB0).2)
  clear hr3 hr4 hr5 hr6 hc3 hc4 hc5 hc6 hcc hS
  simp [Act.put]
  go_wp2_with (first
    | go_skip
    | go_guarded
    | (refine bx_set rfl 27 (.tmp 22) (.tmp 21) rfl b 10 (.slice aL nl cL) rfl rfl rfl rfl (gc s1 x1) _ (unhide HR0) (by kernel_rfl) (by simp [gc]) ?_; intro w7 hr7 hc7; rw [e2] at hr7; have HR1 := hide hr7; replace HR6 := hide (hc7.row (unhide HR6) (unhide HN6).1); replace HB0 := hide (And.intro (bel_off (unhide HB0).1 hc7 (unhide HB0).2) (unhide HB0).2); clear hr7 hc7)
    | (refine bx_ld rfl 31 _ rfl b rfl (gc s2 x2) _ (unhide HR1) Tryz.underlying31 (Tryz.sizeP s2 x2) ?_)
    | (go_at_call 79; refine ((unhide HA) _ (unhide HB0).1).mono ?_; rintro e w8 ⟨rfl, hb8⟩; replace HR1 := hide (hb8.row (unhide HR1)); replace HR6 := hide (hb8.row (unhide HR6)); replace HB0 := hide (And.intro ((unhide HB0).1.trans hb8) (unhide HB0).2); clear hb8)
    | (go_at_call 75; refine ((unhide HM) _ (unhide HB0).1).mono ?_; rintro e w9 ⟨aM, cM, rfl, ho9, hb9⟩; replace HR1 := hide (hb9.row (unhide HR1)); replace HR6 := hide (hb9.row (unhide HR6)); replace HB0 := hide (And.intro ((unhide HB0).1.trans hb9) (unhide HB0).2); have HO := hide ho9; clear hb9 ho9)
    | (refine bx_set rfl 22 (.tmp 31) (.tmp 30) rfl b 1 (.slice aM MB.length cM) rfl rfl rfl rfl (gc s2 x2) _ (unhide HR1) (by kernel_rfl) (by simp [gc]) ?_; intro wa hra hca; rw [e3] at hra; have HR2 := hide hra; replace HO := hide ((unhide HO).box (unhide HR1) (by decide) hca); replace HR6 := hide (hca.row (unhide HR6) (unhide HN6).1); replace HB0 := hide (And.intro (bel_off (unhide HB0).1 hca (unhide HB0).2) (unhide HB0).2); clear hra hca)
    | (refine bx_ld rfl 31 _ rfl b rfl (gc sc { x with aB := aB, cB := cB, aL := aL, cL := cL, aM := aM, cM := cM }) _ (unhide HR2) Tryz.underlying31 (Tryz.sizeP _ _) ?_)
    | (refine bx_st rfl 31 _ _ rfl b6 (gc sc { x with aB := aB, cB := cB, aL := aL, cL := cL, aM := aM, cM := cM }) _ rfl rfl (unhide HR6) (Tryz.sizeP _ _) rfl (gc_one _ _) ?_; intro wb hrb hcb; have HRB := hide (And.intro hrb (And.intro ((unhide HO).box (unhide HR6) (by decide) hcb) (bel_off (unhide HB0).1 hcb (unhide HN6).2))); clear hrb hcb))
  refine bodyPost_ret (res1 (p := 6) rfl Tryz.underlying31 (Tryz.sizeP _ _) (unhide HRB).1 _ rfl) rfl ⟨_, _, rfl, (unhide HRB).2.1, (unhide HRB).2.2⟩
end Go.Proofs.YthekbhliokcpcaaGreat
