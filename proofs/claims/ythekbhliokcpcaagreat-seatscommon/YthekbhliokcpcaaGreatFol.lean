/- mayFollows of members that may be. -/
import Derived.Test.YthekbhliokcpcaaGreatNonc
import Derived.Deep.RegionHeld3
namespace Go.Proofs.YthekbhliokcpcaaGreat
open Go.RowKit Go.Maps Go.Sort
/-! ### Regions that draw their order, by hand -/
section
variable {ops : Array Oper} {Q : Exit → Act → World → Prop} {md : Region.Mode} {S : World → Prop} {i : Nat} {o : Oper} {fuel : Nat} {listed : Array Bool} {a : Act} {w : World}
/-- What yields one value wherever S holds is taken first. -/
theorem any_take {v : Value} (hi : ops[i]? = some o) (hs : Region.noSelect ops = true) (hf : Region.free md ops listed i = true) (hr : (Region.ready md ops listed).contains i = true) (hQ : ∀ c a w, Q (.panic c) (a.put o.dst v) w → Q (.panic c) a w) (hw : Region.wanted o (yielded ops a.tmps) = true) (hS : S w) (hy : ∀ w, S w → (execOp a.eval o).run Tryz.prog w = .ok (.value v) w)
    (h : wpAnyH Tryz.prog md ops Q S fuel (listed.setIfInBounds i true) (a.put o.dst v) w) : wpAnyH Tryz.prog md ops Q S (fuel + 1) listed a w := wpAnyH_take hi hs hf hr hQ (.inl ⟨hw, hy⟩) hS h
/-- A whole struct is taken first. -/
theorem any_ld {n : Nat} {s : PP} {x : Px} {b : Nat} {y : Operand} (hi : ops[i]? = some o) (hs : Region.noSelect ops = true) (hf : Region.free md ops listed i = true) (hr : (Region.ready md ops listed).contains i = true) (hQ : ∀ c a w, Q (.panic c) (a.put o.dst (.agg (pc n s x))) w → Q (.panic c) a w) (hw : Region.wanted o (yielded ops a.tmps) = true) (hS : S w) (ho : o.op = .load 31 y) (hx : a.eval y = .pointer (some ⟨b, 0, none⟩)) (hb : ∀ w, S w → w.heap[b]? = some (.cells (pc n s x) 31))
    (h : wpAnyH Tryz.prog md ops Q S fuel (listed.setIfInBounds i true) (a.put o.dst (.agg (pc n s x))) w) : wpAnyH Tryz.prog md ops Q S (fuel + 1) listed a w := any_take hi hs hf hr hQ hw hS (fun w hw => by
      unfold execOp
      simp only [ho, hx, Instr.loadAt, Instr.sureAddr, Sem.run_bind, Sem.run_pure, Result.andThen_ok, run_loadVar_row w b 31 31 _ (0, 0) _ (hb w hw) Tryz.underlying31 rfl (Tryz.size32 n s x)]) h
/-- A call is what is left to come up. -/
theorem any_call {f : FuncId} {args : Array Value} {R : Ending → World → Prop} (hr : Region.ready md ops listed = [i]) (hi : ops[i]? = some o) (hw : Region.wanted o (yielded ops a.tmps) = true) (hrun : (execOp a.eval o).run Tryz.prog w = .ok (.enter f args) w) (hc : Calls Tryz.prog f args w R)
    (hK : ∀ e w', R e w' → ∃ v, e = .returned v ∧ S w' ∧ wpAnyH Tryz.prog md ops Q S fuel (listed.setIfInBounds i true) (a.put o.dst v) w') : wpAnyH Tryz.prog md ops Q S (fuel + 1) listed a w := by
  refine wpAnyH_all hr (by simp) (fun j hj => ?_)
  rw [List.mem_singleton.1 hj]
  unfold wpOp
  simp only [hi, hw, if_true, Oper.wp, hrun, Oper.upon_enter]
  refine .inl (hc.mono ?_)
  intro e w' he
  obtain ⟨v, rfl, h1, h2⟩ := hK e w' he
  exact ⟨h1, h2⟩
/-- Something else that is left to come up. -/
theorem any_do {v : Value} {w' : World} (hr : Region.ready md ops listed = [i]) (hi : ops[i]? = some o) (hw : Region.wanted o (yielded ops a.tmps) = true) (hrun : (execOp a.eval o).run Tryz.prog w = .ok (.value v) w')
    (hK : S w' ∧ wpAnyH Tryz.prog md ops Q S fuel (listed.setIfInBounds i true) (a.put o.dst v) w') : wpAnyH Tryz.prog md ops Q S (fuel + 1) listed a w := by
  refine wpAnyH_all hr (by simp) (fun j hj => ?_)
  rw [List.mem_singleton.1 hj]
  unfold wpOp
  simp only [hi, hw, if_true, Oper.wp, hrun, Oper.upon_value]
  exact .inl hK
end
set_option maxRecDepth 100000 in
theorem fol1_ok {W : World} {bl : Nat} {last id : Int} {f : Int × Int × Int} (hl : W.cell? ⟨bl, 0, none⟩ = some (.int .u64 last)) (h0 : 0 ≤ last) (h1 : last ≤ 1000000) (e : f.1 = id) (f1 : 1 ≤ f.2.1) (f2 : f.2.1 ≤ last + 1) (f3 : f.2.2 < f.2.1) : Calls Tryz.prog 222 #[.agg (encF f).toArray, .int .i64 id, .pointer (some ⟨bl, 0, none⟩)] W fun e w' => e = .returned (.bool true) ∧ Bel W w' := by
  have hl2 := ((Bel.refl W).alloc (.cells #[.int .i64 f.1, .int .u64 f.2.1, .int .u64 f.2.2] 79)).cell hl
  have hw : IntKind.u64.wrap (last + 1) = last + 1 := by rw [IntKind.wrap_u64]; omega
  have he : (f.1 == id) = true := by simp [e]
  clear e
  unfold encF
  go_enter Tryz.func222, Tryz.ntmps222
  go_wp2_with fail
  go_ret
  exact ⟨rfl, (Bel.refl W).alloc _⟩
theorem E65_cell {W : World} {g off : Nat} {l : List (Int × Int × Int)} (h : E65.R W g off l) (j : Nat) (hj : j < l.length) : W.cell? ⟨g, off + j * 3, none⟩ = some (.int .i64 l[j].1) ∧ W.cell? ⟨g, off + j * 3 + 1, none⟩ = some (.int .u64 l[j].2.1) ∧ W.cell? ⟨g, off + j * 3 + 2, none⟩ = some (.int .u64 l[j].2.2) := by
  have h0 := h j hj 0 _ rfl
  have h1 := h j hj 1 _ rfl
  have h2 := h j hj 2 _ rfl
  exact ⟨by simpa [E65] using h0, by simpa [E65] using h1, by simpa [E65] using h2⟩
set_option maxRecDepth 100000 in
set_option maxHeartbeats 1000000 in
theorem eqf_ok {W : World} {a b : Option Addr} {cap cap2 bl : Nat} {last : Int} {F : List (Int × Int × Int)} {I : List Int} (hF : Sl E65 W a F) (hI : Sl E3 W b I) (hl : W.cell? ⟨bl, 0, none⟩ = some (.int .u64 last)) (h0 : 0 ≤ last) (h1 : last ≤ 1000000) (e : F.map (·.1) = I) (hf : ∀ f ∈ F, 1 ≤ f.2.1 ∧ f.2.1 ≤ last + 1 ∧ f.2.2 < f.2.1) (hlen : I.length ≤ 1000000) : Calls Tryz.prog 221 #[.slice a F.length cap, .slice b I.length cap2, .func (.func 222) #[] #[.pointer (some ⟨bl, 0, none⟩)]] W fun e w' => e = .returned (.bool true) ∧ Bel W w' := by
  have hFI : F.length = I.length := by rw [← e, List.length_map]
  rw [hFI]
  obtain ⟨g, off, hg, hR⟩ := hF
  obtain ⟨g2, off2, hg2, hR2⟩ := hI
  have HE : Hid (∀ (j : Nat) (f : Int × Int × Int) (y : Int), F[j]? = some f → I[j]? = some y → f.1 = y) := hide (fun j f y h1 h2 => by subst e; rw [List.getElem?_map, h1] at h2; simpa using h2)
  have HF := hide hf
  have HC : Hid (∀ (w : World) (f : Int × Int × Int) (id : Int), Bel W w → f.1 = id → (1 ≤ f.2.1 ∧ f.2.1 ≤ last + 1 ∧ f.2.2 < f.2.1) → Calls Tryz.prog 222 #[.agg (encF f).toArray, .int .i64 id, .pointer (some ⟨bl, 0, none⟩)] w fun e w' => e = .returned (.bool true) ∧ Bel w w') := hide (fun w f id hb e hf => fol1_ok (hb.cell hl) h0 h1 e hf.1 hf.2.1 hf.2.2)
  clear hl h0 h1 e hf
  generalize hn : I.length = n at *
  have HN := hide hn
  have HM := hide hFI
  have HG := hide hg
  have HR := hide hR
  have HG2 := hide hg2
  have HR2 := hide hR2
  clear hn hg hR hFI hg2 hR2
  go_enter Tryz.func221, Tryz.ntmps221
  go_wp2_with fail
  go_loopw [17] (fun vk wr => ∃ (i : Nat), i ≤ n ∧ vk = .int .i64 i ∧ Hid (Bel W wr)) (fun vk _ => n - (intOf vk).toNat)
  case atStart => exact ⟨0, Nat.zero_le _, rfl, hide (Bel.refl _)⟩
  case round =>
    obtain ⟨i, hk, rfl, HB⟩ := hrel
    by_cases hlt : i < n
    · have hil : i < F.length := by rw [unhide HM]; exact hlt
      have hik : i < I.length := by rw [unhide HN]; exact hlt
      obtain rfl := (unhide HG) (by rw [unhide HM]; omega)
      obtain rfl := (unhide HG2) (by omega)
      have hkn : (i : Int) < n := by omega
      obtain ⟨r0, r1, r2⟩ := E65_cell (unhide HR) i hil
      have r0 := (unhide HB).cell r0
      have r1 := (unhide HB).cell r1
      have r2 := (unhide HB).cell r2
      have r3 := (unhide HB).cell (E3_cell (unhide HR2) i hik)
      have r3' := ((Bel.refl wr).alloc (.cells #[.int .i64 F[i].1, .int .u64 F[i].2.1, .int .u64 F[i].2.2] 79)).cell r3
      have HC2 := hide ((unhide HC) (wr.alloc (.cells #[.int .i64 F[i].1, .int .u64 F[i].2.1, .int .u64 F[i].2.2] 79)) F[i] I[i] ((unhide HB).alloc _) ((unhide HE) i _ _ (List.getElem?_eq_getElem hil) (List.getElem?_eq_getElem hik)) ((unhide HF) _ (List.getElem_mem hil)))
      unfold encF at HC2
      generalize F[i] = f at *
      generalize I[i] = id at *
      clear r3
      go_wp2_with (first
        | (go_at_call 222; refine (unhide HC2).mono ?_; rintro e w3 ⟨rfl, hb3⟩; have HB3 := hide (((unhide HB).alloc (.cells #[.int .i64 f.1, .int .u64 f.2.1, .int .u64 f.2.2] 79)).trans hb3); clear hb3))
      go_roundw
      case rel => exact ⟨i + 1, by omega, by go_num, HB3⟩
      case measure => simp [intOf]; omega
    · obtain rfl : i = n := by omega
      go_wp2_with fail
      go_ret
      exact ⟨rfl, unhide HB⟩
set_option maxRecDepth 100000 in
set_option maxHeartbeats 2000000 in
theorem follows_ok {W : World} {n : Nat} {s : PP} {x : Px} (h : Pw W n s x) (hn : n ≤ 64) (h1 : 1 ≤ n) (hl : s.log.length ≤ 999999) (hF : s.fol.map (·.1) = oth n s.id) (hf : ∀ f ∈ s.fol, 1 ≤ f.2.1 ∧ f.2.1 ≤ (s.log.length : Int) + 1 ∧ f.2.2 < f.2.1 ∧ 0 ≤ f.2.2) : Calls Tryz.prog 189 #[.agg (pc n s x)] W fun e w' => e = .returned (.bool true) ∧ Bel W w' := by
  have H1 : Hid (∀ W', Bel W W' → Calls Tryz.prog 79 #[.agg (pc n s x)] W' fun e w' => e = .returned (.tuple #[.int .u64 s.lastI, .int .u64 s.lastT]) ∧ Bel W' w') := hide (fun W' hb => last_any (h.l.bel hb) (by omega))
  have H2 : Hid (∀ W', Bel W W' → Calls Tryz.prog 169 #[.agg (pc n s x)] W' fun e w' => ∃ a' c', e = .returned (.slice a' (oth n s.id).length c') ∧ Sl E3 w' a' (oth n s.id) ∧ Bel W' w') := hide (fun W' hb => others_any (h.m.bel hb) hn h1)
  have hol : (oth n s.id).length ≤ 64 := Nat.le_trans (List.length_filter_le _ _) (by rw [mem_len]; exact hn)
  have H3 : Hid (∀ W' a' c' bl, Bel W W' → Sl E3 W' a' (oth n s.id) → W'.cell? ⟨bl, 0, none⟩ = some (.int .u64 s.lastI) → Calls Tryz.prog 221 #[.slice x.aF s.fol.length x.cF, .slice a' (oth n s.id).length c', .func (.func 222) #[] #[.pointer (some ⟨bl, 0, none⟩)]] W' fun e w' => e = .returned (.bool true) ∧ Bel W' w') := hide (fun W' a' c' bl hb hs hc => eqf_ok (h.f.bel hb) hs hc (by unfold PP.lastI; omega) (by unfold PP.lastI; omega) hF (fun f hm => ⟨(hf f hm).1, (hf f hm).2.1, (hf f hm).2.2.1⟩) (by omega))
  clear h hn h1 hl hF hf hol
  generalize hI : s.lastI = i at *
  generalize s.lastT = t at *
  clear hI
  go_enter Tryz.func189, Tryz.ntmps189
  go_wp2_with (first
    | (refine bx_box rfl 31 _ rfl (pc n s x) rfl ?_; intro b w0 hr0 hs0 hb0; have HR0 := hide hr0; have HB0 := hide hb0; clear hr0 hs0 hb0)
    | (refine bx_ld rfl 31 _ rfl b rfl (pc n s x) _ (unhide HR0) Tryz.underlying31 (Tryz.size32 n s x) ?_)
    | (go_at_call 79; refine ((unhide H1) _ (unhide HB0)).mono ?_; rintro e w1 ⟨rfl, hb1⟩; have HR1 := hide (hb1.row (unhide HR0)); have HB1 := hide ((unhide HB0).trans hb1); clear hb1))
  have hr2 : (w1.alloc (.cells #[.int .u64 i] 25)).heap[b]? = some (.cells (pc n s x) 31) := ((Bel.refl w1).alloc _).row (unhide HR1)
  have hcl : (w1.alloc (.cells #[.int .u64 i] 25)).cell? ⟨w1.heap.size, 0, none⟩ = some (.int .u64 i) := cell_of (at_new w1 _)
  have hb2 : Bel W (w1.alloc (.cells #[.int .u64 i] 25)) := (unhide HB1).alloc _
  generalize (w1.alloc (.cells #[.int .u64 i] 25)) = w2 at *
  generalize w1.heap.size = bl at *
  have c15 := (Bx.of hr2).c15
  generalize (oth n s.id).length = no at *
  refine wp_region_held_drew (S := fun W => W.heap[b]? = some (.cells (pc n s x) 31)) Tryz.follows hr2 (fun hS => ?_)
  refine any_take (i := 0) (v := .pointer (some ⟨b, 15, none⟩)) rfl (by kernel_rfl) (by kernel_rfl) (by kernel_rfl) (fun _ _ _ h => h) rfl hS (fun w _ => by go_simp) ?_
  refine any_take (i := 1) (v := .slice x.aF s.fol.length x.cF) rfl (by kernel_rfl) (by kernel_rfl) (by kernel_rfl) (fun _ _ _ h => h) rfl hS (fun w hw => by have := (Bx.of hw).c15; go_simp) ?_
  refine any_ld (i := 2) (b := b) rfl (by kernel_rfl) (by kernel_rfl) (by kernel_rfl) (fun _ _ _ h => h) rfl hS rfl rfl (fun w hw => hw) ?_
  refine any_take (i := 4) (v := .func (.func 222) #[] #[.pointer (some ⟨bl, 0, none⟩)]) rfl (by kernel_rfl) (by kernel_rfl) (by kernel_rfl) (fun _ _ _ h => h) rfl hS (fun w hw => by go_simp) ?_
  refine any_call (i := 3) (by kernel_rfl) rfl rfl (by go_simp) ((unhide H2) _ (Bel.drew hb2)) ?_
  rintro e w3 ⟨a3, c3, rfl, hs3, hb3⟩
  refine ⟨_, rfl, hb3.row hr2, ?_⟩
  refine any_call (i := 5) (by kernel_rfl) rfl rfl (by go_simp) ((unhide H3) w3 a3 c3 bl (hb2.drew.trans hb3) hs3 (hb3.cell hcl)) ?_
  rintro e w4 ⟨rfl, hb4⟩
  refine ⟨_, rfl, hb4.row (hb3.row hr2), ?_⟩
  refine any_do (i := 6) (v := .bool true) (by kernel_rfl) rfl rfl (by go_simp) ⟨hb4.row (hb3.row hr2), ?_⟩
  refine wpAnyH_done (by kernel_rfl) ?_ _
  go_wp2_with fail
  go_ret
  exact ⟨rfl, (hb2.drew.trans hb3).trans hb4⟩
end Go.Proofs.YthekbhliokcpcaaGreat
