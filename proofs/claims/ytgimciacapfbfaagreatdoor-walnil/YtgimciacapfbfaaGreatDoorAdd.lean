/- A record is added. -/
import Derived.Test.YtgimciacapfbfaaGreatDoorPth
namespace Go.Proofs.YtgimciacapfbfaaGreatDoor
open Go.RowKit Go.Maps Go.WideMaps
/-- A record's frame. -/
def frm (b : List UInt8) : List UInt8 := headL ⟨b.toArray⟩ ++ b
theorem frm_len (b : List UInt8) : (frm b).length = 8 + b.length := by unfold frm; rw [List.length_append, headL_len]
theorem frame_b (b : List UInt8) (hb : b.length ≤ 1048576) (w : World) : Calls Tryz.prog 51 #[.string ⟨b.toArray⟩] w fun e w' => e = .returned (.tuple #[.string ⟨(frm b).toArray⟩, .int .i64 0]) ∧ Bel w w' := by
  have h := frame_any ⟨b.toArray⟩ (by show b.toArray.size ≤ _; simp; omega) w
  rw [show rFr ⟨b.toArray⟩ = (⟨(headL ⟨b.toArray⟩).toArray⟩ ++ ⟨b.toArray⟩, 0) by unfold rFr; rw [if_neg (by show ¬ _ < b.toArray.size; simp; omega)], app_str] at h
  exact h
def PW.next (x : PW) : Nat := x.first + x.rs.length
/-- With a record more. -/
def PW.push (x : PW) (b : List UInt8) : PW := ⟨x.nm, x.first, x.file x.next, x.rs ++ [(b, x.start x.next + (8 + b.length))]⟩
theorem Tryz.i67 : ∃ i, Tryz.prog.info? 67 = some i ∧ i.zero = some (.agg #[.string ⟨#[]⟩, .int .i64 0]) ∧ i.size = 2 ∧ i.bytes = 24 := by
  have h : (Tryz.prog.info? 67).map (fun i => (i.zero, i.size, i.bytes)) = some (some (.agg #[.string ⟨#[]⟩, .int .i64 0]), 2, 24) := by kernel_rfl
  cases hi : Tryz.prog.info? 67 with
  | none => rw [hi] at h; cases h
  | some i => rw [hi] at h; exact ⟨i, rfl, by simpa using h⟩
theorem cell_al {w : World} {o : Obj} {p i : Nat} {v : Value} (h : w.cell? ⟨p, i, none⟩ = some v) : (w.alloc o).cell? ⟨p, i, none⟩ = some v := by
  unfold World.cell? at h ⊢
  cases hp : w.heap[p]? with
  | none => rw [hp] at h; cases h
  | some ob => rw [show (w.alloc o).heap[p]? = some ob from ((Bel.refl w).alloc o).row hp]; rw [hp] at h; exact h
/-- The records' row has grown. -/
theorem add_mid {W w5 w7 : World} {q p : Nat} {v : Value} {x : PW} {o : Obj} (hw : Wc W q p v x) (hv : v.ownBlock ≠ some q) (hb : Bel W w5) (hgrow : (w5.alloc o).grownBy w7 v.ownBlock) :
    Hid (w7.heap[q]? = some (.cells #[.pointer (some ⟨p, 0, none⟩), vS x.nm, .int .i64 x.first, .int .i64 x.last, v] 55)) ∧ w7.cell? ⟨q, 4, none⟩ = some v ∧ w7.frozen? ⟨q, 4, none⟩ = false ∧ Hid (Ch (fun i => i = q ∨ v.ownBlock = some i) W w7) := by
  have h1 : (w5.alloc o).heap[q]? = some (.cells #[.pointer (some ⟨p, 0, none⟩), vS x.nm, .int .i64 x.first, .int .i64 x.last, v] 55) := (hb.alloc o).row hw.row
  have h2 : w7.heap[q]? = some (.cells #[.pointer (some ⟨p, 0, none⟩), vS x.nm, .int .i64 x.first, .int .i64 x.last, v] 55) := by rw [hgrow.block q (lt_of_some h1) (fun e => hv e.symm)]; exact h1
  exact ⟨h2, cell_of h2, free_row h2, ((hb.alloc o).ch _).grown hgrow (fun i hi => Or.inl (Or.inr hi))⟩
/-- The new row is the wal's. -/
theorem add_fin {W w7 : World} {q p g cap : Nat} {v : Value} {x : PW} {e : List UInt8 × Nat} (h7 : w7.heap[q]? = some (.cells #[.pointer (some ⟨p, 0, none⟩), vS x.nm, .int .i64 x.first, .int .i64 x.last, v] 55)) (hc : Ch (fun i => i = q ∨ v.ownBlock = some i) W w7) (hown : w7.ownsRow 0 67 2 (.slice (some ⟨g, 0, none⟩) (x.rs.length + 1) cap) (x.rs.length + 1) (rcs x.rs ++ rcs [e])) (hgq : g ≠ q) (n : Nat) :
    Wc ((w7.setCell ⟨q, 4, none⟩ (.slice (some ⟨g, 0, none⟩) (x.rs.length + 1) cap)).setCell ⟨q, 3, none⟩ (.int .i64 n)) q p (.slice (some ⟨g, 0, none⟩) (x.rs.length + 1) cap) ⟨x.nm, x.first, n, x.rs ++ [e]⟩ ∧ Ch (fun i => i = q ∨ v.ownBlock = some i) W ((w7.setCell ⟨q, 4, none⟩ (.slice (some ⟨g, 0, none⟩) (x.rs.length + 1) cap)).setCell ⟨q, 3, none⟩ (.int .i64 n)) := by
  have r8 := row_set (p := 4) (v := .slice (some ⟨g, 0, none⟩) (x.rs.length + 1) cap) h7
  have r9 := row_set (p := 3) (v := .int .i64 n) r8
  refine ⟨⟨r9, ?_⟩, (hc.set (Or.inl (Or.inl rfl)) _).set (Or.inl (Or.inl rfl)) _⟩
  rw [rcs_app, List.length_append]
  refine row_at hown (fun k hk => ?_)
  have hk' : g = k := Option.some.inj hk
  rw [Below.heap_setCell _ _ _ _ (by show k ≠ q; omega), Below.heap_setCell _ _ _ _ (by show k ≠ q; omega)]
set_option maxRecDepth 100000 in
set_option maxHeartbeats 4000000 in
theorem add_any {w0 W : World} {C : Nat} {G : Nat → Prop} {q p : Nat} {x : PW} {d d' : PD} (h : Wa w0 C G W q p x d) (hg : Gl w0) (hi : Is x) (hn : x.nm.length ≤ 64) (b : List UInt8) (hb : b.length ≤ 1048576) (hol : d.ops.length ≤ 1000000) (hC : C + 2 * (8 + b.length) ≤ 1099511627776) (hs : x.start x.next ≤ 1099511627776) (hd : d.app (pth x.nm (x.file x.next)) (frm b) = (0, d')) :
    Calls Tryz.prog 27 #[.pointer (some ⟨q, 0, none⟩), .string ⟨b.toArray⟩] W fun e w' => e = .returned (.int .i64 0) ∧ Wa w0 (C + (8 + b.length)) G w' q p (x.push b) d' ∧ Kp G W w' := by
  have hfi := hi.fi
  have hle := hi.le
  have hfl : x.file x.next ≤ x.next := by unfold PW.file; omega
  have hnx : x.next ≤ 200000 := by unfold PW.next; omega
  have H := hide h
  have hfr := frm_len b
  have HD := hide hd
  have HI := hide hi
  have HG := hide hg
  clear h hd hi hg
  have hgt : ¬ (999999999999 : Int) < ((x.file x.next : Nat) : Int) := by omega
  go_enter Tryz.func27, Tryz.ntmps27
  go_wp2_with fail
  refine (next_any (unhide H) (unhide HI)).mono ?_
  rintro e w1 ⟨rfl, hb1⟩
  have H1 := hide ((unhide H).up hb1)
  go_wp2_with fail
  refine (file_any (unhide H1) (unhide HI) x.next (by unfold PW.next; omega) (by omega)).mono ?_
  rintro e w1' ⟨rfl, rfl⟩
  rw [show x.next - (x.next - x.first) % 32 = x.file x.next from rfl]
  go_wp2_with fail
  refine (frame_b b hb _).mono ?_
  rintro e w2 ⟨rfl, hb2⟩
  have H2 := hide ((unhide H1).up hb2)
  go_wp2_with fail
  obtain ⟨a2, c2, hr2, _, _⟩ := (unhide H2).see
  have R2 := hide hr2
  have s0 : w2.drew.cell? ⟨q, 0, none⟩ = some (.pointer (some ⟨p, 0, none⟩)) := cell_of hr2
  have hp := hide (fun W (hb : Bel w2 W) => path_any (hb.row hr2) ((unhide HG).next ((unhide H2).bel.trans hb)) hn (x.file x.next) (by omega))
  have ha := hide (fun W (hb : Bel w2 W) => Wa.call ((unhide H2).up hb) (fun M B hk => append_any hk (pth x.nm (x.file x.next)) (frm b) (by rw [pth_len]; unfold maxLen; omega) hol (by rw [hfr]; exact hC)))
  rw [unhide HD, hfr] at ha
  clear hr2
  go_region_held3 (fun W => W.cell? ⟨q, 0, none⟩ = some (.pointer (some ⟨p, 0, none⟩))) (first | exact s0 | exact s1 | exact s2 | go_simp)
    ((first
      | (go_at_call 37; refine ((unhide hp) _ (Bel.refl _).drew).mono ?_; rintro e w3 ⟨rfl, hb3⟩; have s1 : w3.cell? ⟨q, 0, none⟩ = some (.pointer (some ⟨p, 0, none⟩)) := cell_of ((((Bel.refl w2).drew).trans hb3).row (unhide R2)))
      | (go_at_call 52; refine ((unhide ha) _ ((Bel.refl w2).drew.trans hb3)).mono ?_; rintro e w4 ⟨rfl, hwa4, hkp4⟩; have H4 := hide hwa4; have KP4 := hide hkp4; clear hwa4 hkp4; have s2 : w4.cell? ⟨q, 0, none⟩ = some (.pointer (some ⟨p, 0, none⟩)) := (unhide H4).see.elim fun _ h => h.elim fun _ h => cell_of h.1)))
  all_goals
    clear s0 s1 s2
    go_wp2_with fail
    obtain ⟨v, M, B, hw, hdk, hap⟩ := (unhide H4).ex
    obtain ⟨a, c, rfl, hca, hcell⟩ := hw.see
    have HW := hide hw
    have HDK := hide hdk
    have HAP := hide hap
    have s4 : w4.drew.cell? ⟨q, 4, none⟩ = some (.slice a x.rs.length c) := cell_of hw.row
    have h13 := hide (fun W (hb : Bel w4 W) => next_any ((unhide H4).up hb) (unhide HI))
    have h41 := hide (fun W (hb : Bel w4 W) => start_any ((unhide H4).up hb) (unhide HI) x.next (by unfold PW.next; omega) (by unfold PW.next; omega))
    have e1 : IntKind.i64.wrap (((x.start x.next : Nat) : Int) + (8 + (b.length : Int))) = ((x.start x.next + (8 + b.length) : Nat) : Int) := by rw [wrapI (by omega) (by omega)]; omega
    have S4 : ∀ W, Bel w4 W → W.cell? ⟨q, 4, none⟩ = some (.slice a x.rs.length c) := fun W hb => cell_of (hb.row (unhide HW).row)
    have S4' := hide S4
    clear hw hdk hap hcell S4
    obtain ⟨i0, hi0, hz0, hz1, hz2⟩ := Tryz.i67
    go_region_law
      ((first
        | (go_simp; go_at_call 13; refine ((unhide h13) _ (Bel.refl _).drew).mono ?_; rintro e w5 ⟨rfl, hb5⟩; have s5 := (unhide S4') w5 ((Bel.refl _).drew.trans hb5))
        | (go_simp; go_at_call 41; refine ((unhide h41) _ ((Bel.refl _).drew.trans hb5)).mono ?_; rintro e w6 ⟨rfl, hb6⟩; have hb46 := hide (((Bel.refl w4).drew.trans hb5).trans hb6); have s6 := (unhide S4') w6 (unhide hb46); have sA : ∀ o, (w6.alloc o).cell? ⟨q, 4, none⟩ = some (.slice a x.rs.length c) := fun o => cell_al s6)
        | (refine step_append_lies _ rfl _ _ 53 rfl 0 67 i0 (.agg #[.string ⟨#[]⟩, .int .i64 0]) 2 24 Tryz.underlying53 hi0 hz0 hz1 hz2 rfl (by decide) (.slice a x.rs.length c) x.rs.length (rcs x.rs) rfl ((row_at (unhide HW).own (fun k hk => (unhide hb46).block k ((unhide HW).own.lt k hk).2)).alloc _) ⟨w6.heap.size, 0, none⟩ 1 1 (rcs [(b, x.start x.next + (8 + b.length))]) rfl rfl (World.news_of_block (at_new w6 _)) (rcs_one _) (by decide) (by unfold maxLen; omega) (by omega) (Nat.zero_le _) (w6.heap.size + 1) (by simp) ?_; intro g cp w7 hown hgrow hat hlt; obtain ⟨hr7, s7, f7, hc7⟩ := add_mid (unhide HW) (fun e => ((unhide HAP).av q e).2.2.2 rfl) (unhide hb46) hgrow)))
    all_goals
      have r8 := row_set (p := 4) (v := .slice (some ⟨g, 0, none⟩) (x.rs.length + 1) cp) (unhide hr7)
      have c3 : (w7.setCell ⟨q, 4, none⟩ (.slice (some ⟨g, 0, none⟩) (x.rs.length + 1) cp)).cell? ⟨q, 3, none⟩ = some (.int .i64 (x.last : Nat)) := cell_of r8
      have f3 := free_row (p := 3) r8
      have hgq : g ≠ q := by
        rcases hat with h | h
        · exact ((unhide HAP).av g h).2.2.2
        · have h1 := lt_of_some (unhide HW).row
          have h2 := (unhide hb46).size
          omega
      have hfin := hide (add_fin (unhide hr7) (unhide hc7) hown hgq (x.file x.next))
      have hk1 := hide (((unhide H).kp (hb1.trans (hb2.trans ((Bel.refl w2).drew.trans hb3)))).trans (unhide KP4))
      have hvv : Hid (∀ k, (Value.slice (some ⟨g, 0, none⟩) (x.rs.length + 1) cp).ownBlock = some k → (Value.slice a x.rs.length c).ownBlock = some k ∨ w4.heap.size ≤ k) := fun k hk => by
        have hk' : g = k := Option.some.inj hk
        subst hk'
        rcases hat with h | h
        · exact Or.inl h
        · have h2 := (unhide hb46).size
          exact Or.inr (by omega)
      clear r8 hown hgrow hat
      go_wp2_with fail
      go_ret
      obtain ⟨r1, r2⟩ := wa_turn (unhide HW) (unhide HDK) (unhide HAP) (unhide H4).lt (unhide H4).g0 (unhide H4).bel (unhide hfin).2 (unhide hfin).1 (unhide hvv)
      exact ⟨rfl, r1, (unhide hk1).trans r2⟩
end Go.Proofs.YtgimciacapfbfaaGreatDoor
