/- Cut. -/
import Derived.Test.YtgimciacapfbfaaGreatDoorDro
namespace Go.Proofs.YtgimciacapfbfaaGreatDoor
open Go.RowKit Go.Maps Go.WideMaps
theorem tr_ok {d : PD} {n : List UInt8} {k : Nat} (h1 : badN n = false) (h2 : hasF d.seen n = true) (h3 : k ≤ (get d.seen n).length) : d.tr n k = (0, ⟨d.room, run5 d.seen (.tr n k), d.synced, d.ops ++ [.tr n k]⟩) := by
  unfold PD.tr
  rw [h1, if_neg (by simp), h2, if_pos rfl, if_neg (by rintro (h | h) <;> omega)]
  rfl
theorem inv_cut {c : Nat} {x : PW} {d : PD} (h : Inv c x d) (hc : c ≤ 3000) (hl : x.first < x.last) : d.rm (pth x.nm x.last) = (0, ⟨d.room, del d.seen (pth x.nm x.last), d.synced, d.ops ++ [.rm (pth x.nm x.last)]⟩) ∧ Inv (c + 1) ⟨x.nm, x.first, x.last - 32, x.rs.take (x.last - x.first)⟩ ⟨d.room, del d.seen (pth x.nm x.last), d.synced, d.ops ++ [.rm (pth x.nm x.last)]⟩ ∧ x.last < x.first + x.rs.length ∧ 32 ≤ x.last - x.first := by
  obtain ⟨m, h1, h2, h3, h4⟩ := h.seg hl
  have hfi := h.fi
  have hrl := h.rl
  refine ⟨rm_ok (pth_ok h.nm2 _) h4, ?_, by omega, by omega⟩
  have htd := tot_del (n := pth x.nm x.last) (srt_ne h.srt)
  have htt := h.tot
  have hld := len_del d.seen (pth x.nm x.last)
  have hll := h.len
  have hoo := h.ops
  have hpo := h.pos
  have g1 : tot (del d.seen (pth x.nm x.last)) ≤ 308 * (c + 1) := by omega
  have g2 : (del d.seen (pth x.nm x.last)).length ≤ c + 1 := by omega
  have hlt : (x.rs.take (x.last - x.first)).length = 32 * (m + 1) := by rw [List.length_take]; omega
  have hfj := h.fil (32 * m) (by omega)
  have e0 : x.file (x.first + 32 * m) = x.last - 32 := by rw [file_at]; omega
  rw [e0] at hfj
  have hne0 : pth x.nm (x.last - 32) ≠ pth x.nm x.last := fun e => by
    have := pth_inj (a := x.last - 32) (b := x.last) (by omega) (by omega) e
    omega
  refine ⟨h.nm1, h.nm2, del_srt h.srt _, g1, g2, by simp; omega, by show x.first ≤ _; omega, by show (x.rs.take _).length ≤ _; omega, Or.inr ⟨m, by show x.last - 32 = x.first + 32 * m; omega, by show _ < (x.rs.take _).length; omega, by show (x.rs.take _).length ≤ _; omega, has_del hfj.1 hne0⟩, hpo, fun j hj => ?_⟩
  have hj' : j < 32 * (m + 1) := by
    have : j < (x.rs.take (x.last - x.first)).length := hj
    omega
  have hf := h.fil j (by omega)
  have hne : pth x.nm (x.file (x.first + j)) ≠ pth x.nm x.last := fun e => by
    have h5 := file_at x j
    have := pth_inj (by omega) (by omega) e
    omega
  show hasF _ (pth x.nm (x.file (x.first + j))) = true ∧ ((x.rs.take (x.last - x.first))[j]'hj).2 ≤ (get _ (pth x.nm (x.file (x.first + j)))).length
  refine ⟨has_del hf.1 hne, ?_⟩
  rw [get_del_ne hne, List.getElem_take]
  exact hf.2
/-- What the next record asks. -/
structure Inw (c : Nat) (x : PW) (d : PD) : Prop where
  nm1 : x.nm ≠ []
  nm2 : x.nm.length ≤ 64
  tot : tot d.seen ≤ 308 * c
  len : d.seen.length ≤ c
  ops : d.ops.length ≤ c
  fi : x.first ≤ 32 * c + 1
  rl : x.rs.length ≤ c
  ends : ∀ r ∈ x.rs, r.2 ≤ 308 * c
theorem Inv.inw {c : Nat} {x : PW} {d : PD} (h : Inv c x d) : Inw c x d :=
  ⟨h.nm1, h.nm2, h.tot, h.len, h.ops, h.fi, h.rl, fun r hr => by
    obtain ⟨j, hj, rfl⟩ := List.getElem_of_mem hr
    have h1 := (h.fil j hj).2
    have h2 := get_le d.seen (pth x.nm (x.file (x.first + j)))
    have h3 := h.tot
    omega⟩
theorem Inw.is {c : Nat} {x : PW} {d : PD} (h : Inw c x d) (hc : c ≤ 3000) : Is x := ⟨h.nm1, by have := h.fi; omega, by have := h.rl; omega⟩
theorem inw_can {c : Nat} {x : PW} {d : PD} {b : List UInt8} (h : Inw c x d) (hc : c ≤ 3000) (hb : b.length ≤ 300) (hr : 308 * (c + 1) ≤ d.room) : Can (x, d) b := by
  have hfl := frm_len b
  have htot := h.tot
  have hok := app_ok (d := d) (n := pth x.nm (x.file x.next)) (t := frm b) (pth_ok h.nm2 _) (by omega) (by have := h.len; omega)
  refine ⟨h.is hc, h.nm2, by have := h.ops; show d.ops.length ≤ _; omega, ?_, by show (d.app _ _).1 = 0; rw [hok]⟩
  show x.start x.next ≤ _
  unfold PW.start
  split
  · omega
  · cases he : x.rs[x.next - 1 - x.first]? with
    | none => simp
    | some r =>
      have := h.ends r (List.mem_of_getElem? he)
      simp
      omega
/-- The last files are removed. -/
structure Ctt (w0 : World) (C c : Nat) (G : Nat → Prop) (q p : Nat) (x : PW) (room f : Nat) (W0 : World) (k : Nat) (x' : PW) (d' : PD) (W : World) : Prop where
  wa : Wa w0 C G W q p x' d'
  kp : Kp G W0 W
  inv : Inv (c + k) x' d'
  le : x'.last + 32 * k = x.last
  nm : x'.nm = x.nm
  first : x'.first = x.first
  rs : x'.rs.take (f - x.first) = x.rs.take (f - x.first)
  nx : f ≤ x'.first + x'.rs.length
  room : d'.room = room
  kk : 32 * k ≤ x.rs.length
set_option maxRecDepth 100000 in
set_option maxHeartbeats 4000000 in
theorem cut_any {w0 W : World} {C c : Nat} {G : Nat → Prop} {q p : Nat} {x : PW} {d : PD} (h : Wa w0 C G W q p x d) (hg : Gl w0) (hv : Inv c x d) (hc : c ≤ 1000) (hC : C ≤ 1099511627776) (f : Nat) (hf1 : x.first ≤ f) (hf : f ≤ x.first + x.rs.length) :
    Calls Tryz.prog 19 #[.pointer (some ⟨q, 0, none⟩), .int .i64 f] W fun e w' => e = .returned (.int .i64 0) ∧ ∃ la c' d', Wa w0 C G w' q p ⟨x.nm, x.first, la, x.rs.take (f - x.first)⟩ d' ∧ Kp G W w' ∧ Inw c' ⟨x.nm, x.first, la, x.rs.take (f - x.first)⟩ d' ∧ c' ≤ 3000 ∧ d'.room = d.room := by
  have hi := hv.is (by omega)
  have h13 := hide (next_any h hi)
  obtain ⟨a, cc, hr, _, _⟩ := h.see
  have h24 := hide (gone_any hr hi.nm)
  have c2 : W.cell? ⟨q, 2, none⟩ = some (.int .i64 (x.first : Nat)) := cell_of hr
  have hnb : ¬ ((x.first + x.rs.length : Nat) : Int) < (f : Int) := by omega
  have hnf : ¬ ((f : Int) < (x.first : Nat)) := by omega
  have hnf2 : ¬ (f < x.first) := by omega
  have hfi := hi.fi
  have hle := hi.le
  have hrl0 := hv.rl
  have hlast : x.last ≤ 200000 := by
    rcases hv.lst with ⟨_, h0⟩ | ⟨m, h1, h2, _⟩ <;> omega
  have hseg : Hid (x.first < x.last → x.last < x.first + x.rs.length) := fun hl => by
    obtain ⟨m, h1, h2, _⟩ := hv.seg hl
    omega
  have H0 : Hid (Ctt w0 C c G q p x d.room f W 0 x d W) := ⟨h, Kp.refl _ _, hv, by omega, rfl, rfl, rfl, hf, rfl, by omega⟩
  have H := hide h
  have HG := hide hg
  generalize hnxe : x.first + x.rs.length = nx at h13 hnb
  have hnb2 : ¬ nx < f := by omega
  have HNX := hide hnxe
  clear h hv hi hr hg hf hnxe
  go_enter Tryz.func19, Tryz.ntmps19
  go_wp2_with (first
    | (go_at_call 24; refine (unhide h24).mono ?_; rintro e w1 ⟨rfl, hw1⟩; rw [hw1]; clear hw1)
    | (go_at_call 13; refine (unhide h13).mono ?_; rintro e w2 ⟨rfl, hb2⟩))
  have H2 : Hid (Ctt w0 C c G q p x d.room f W 0 x d w2) := ⟨(unhide H).up hb2, (unhide H).kp hb2, (unhide H0).inv, (unhide H0).le, rfl, rfl, rfl, (unhide H0).nx, rfl, (unhide H0).kk⟩
  clear H0 h24 h13 c2
  go_loopw [5] (fun _ wr => ∃ k x' d', Hid (Ctt w0 C c G q p x d.room f W k x' d' wr)) (fun _ wr => mz q 3 wr)
  case atStart => exact ⟨0, x, d, H2⟩
  case round =>
    obtain ⟨k, x', d', HO⟩ := hrel
    have hckk : c + k ≤ 3000 := by have h2 := (unhide HO).kk; omega
    have hlb : x'.last ≤ 200000 := by have h2 := (unhide HO).le; omega
    have hfb : x'.first ≤ 100000 := by have h2 := (unhide HO).first; omega
    have hff : x'.first ≤ f := by have h2 := (unhide HO).first; omega
    have hnxx : f ≤ x'.first + x'.rs.length := (unhide HO).nx
    have hnl := (unhide HO).inv.nm2
    have hol := (unhide HO).inv.ops
    have hrl := (unhide HO).inv.rl
    have hIs := (unhide HO).inv.is hckk
    obtain ⟨a2, c2, hr2, _, _⟩ := (unhide HO).wa.see
    have HR2 := hide hr2
    have t3 : wr.cell? ⟨q, 3, none⟩ = some (.int .i64 (x'.last : Nat)) := cell_of hr2
    clear hr2
    by_cases hD : f < x'.last
    · have hD1 : (f : Int) < (x'.last : Int) := by omega
      obtain ⟨hrm, hinv, hln, h32⟩ := inv_cut (unhide HO).inv hckk (by omega)
      have s0 : wr.drew.cell? ⟨q, 0, none⟩ = some (.pointer (some ⟨p, 0, none⟩)) := cell_of (unhide HR2)
      have t0 : wr.drew.cell? ⟨q, 3, none⟩ = some (.int .i64 (x'.last : Nat)) := cell_of (unhide HR2)
      have hp := hide (fun W' (hb : Bel wr W') => path_any (hb.row (unhide HR2)) ((unhide HG).next ((unhide HO).wa.bel.trans hb)) hnl x'.last (by omega))
      have ha := hide (fun W' (hb : Bel wr W') => Wa.call ((unhide HO).wa.up hb) (fun M B hk => remove_any hk (pth x'.nm x'.last) (by rw [pth_len]; unfold maxLen; omega) (by omega) hC))
      rw [hrm] at ha
      have HINV := hide hinv
      clear hinv hrm
      go_wp2_with fail
      go_region_held3 (fun W => W.cell? ⟨q, 0, none⟩ = some (.pointer (some ⟨p, 0, none⟩)) ∧ W.cell? ⟨q, 3, none⟩ = some (.int .i64 (x'.last : Nat))) (first | exact ⟨s0, t0⟩ | exact ⟨s1, t1⟩ | exact ⟨s2, t2⟩ | go_simp)
        ((first
          | (go_at_call 37; refine ((unhide hp) _ (Bel.refl _).drew).mono ?_; rintro e w3 ⟨rfl, hb3⟩; have s1 : w3.cell? ⟨q, 0, none⟩ = some (.pointer (some ⟨p, 0, none⟩)) := cell_of ((((Bel.refl wr).drew).trans hb3).row (unhide HR2)); have t1 : w3.cell? ⟨q, 3, none⟩ = some (.int .i64 (x'.last : Nat)) := cell_of ((((Bel.refl wr).drew).trans hb3).row (unhide HR2)))
          | (go_at_call 36; refine ((unhide ha) _ ((Bel.refl wr).drew.trans hb3)).mono ?_; rintro e w4 ⟨rfl, hwa4, hkp4⟩; have H4 := hide hwa4; have KP4 := hide hkp4; clear hwa4 hkp4; have s2 : w4.cell? ⟨q, 0, none⟩ = some (.pointer (some ⟨p, 0, none⟩)) := (unhide H4).see.elim fun _ h => h.elim fun _ h => cell_of h.1; have t2 : w4.cell? ⟨q, 3, none⟩ = some (.int .i64 (x'.last : Nat)) := (unhide H4).see.elim fun _ h => h.elim fun _ h => cell_of h.1)))
      all_goals
        clear s0 t0 s1 t1 s2 t3
        have h39 := hide (forget_any (unhide H4) hIs x'.last (by omega) hln)
        have e1 : IntKind.i64.wrap ((x'.last : Int) - 32) = ((x'.last - 32 : Nat) : Int) := by rw [wrapI (by omega) (by omega)]; omega
        go_wp2_with (go_at_call 39; refine (unhide h39).mono ?_; rintro e w5 ⟨rfl, hwa5, hkp5⟩; have H5 := hide hwa5; have KP5 := hide hkp5; clear hwa5 hkp5; have t5 : w5.cell? ⟨q, 3, none⟩ = some (.int .i64 (x'.last : Nat)) := (unhide H5).see.elim fun _ h => h.elim fun _ h => cell_of h.1; have f5 : w5.frozen? ⟨q, 3, none⟩ = false := (unhide H5).see.elim fun _ h => h.elim fun _ h => free_row h.1)
        have hT := hide (wa_last (unhide H5) (x'.last - 32))
        have hkk := hide ((unhide HO).kp.trans ((((unhide HO).wa.kp ((Bel.refl wr).drew.trans hb3)).trans (unhide KP4)).trans ((unhide KP5).trans (unhide hT).2)))
        go_roundw
        case rel =>
          have hrs := (unhide HO).rs
          have hll := (unhide HO).le
          have hfx := (unhide HO).first
          have hsg := (unhide hseg)
          refine ⟨k + 1, _, _, ⟨(unhide hT).1, unhide hkk, unhide HINV, ?_, (unhide HO).nm, (unhide HO).first, ?_, ?_, (unhide HO).room, ?_⟩⟩
          · show x'.last - 32 + 32 * (k + 1) = x.last; omega
          · show (x'.rs.take (x'.last - x'.first)).take (f - x.first) = _
            rw [List.take_take, Nat.min_eq_left (by omega)]
            exact hrs
          · show f ≤ x'.first + (x'.rs.take (x'.last - x'.first)).length
            rw [List.length_take]; omega
          · have := hsg (by omega); omega
        case measure =>
          rw [(unhide hT).1.mz3, (unhide HO).wa.mz3]
          show x'.last - 32 < x'.last
          omega
    · have hD1 : ¬ (f : Int) < (x'.last : Int) := by omega
      have h13 := hide (next_any (unhide HO).wa hIs)
      by_cases hE : f = x'.first + x'.rs.length
      · have hE1 : (f : Int) = ((x'.first + x'.rs.length : Nat) : Int) := by omega
        rw [← hE] at h13
        go_wp2_with (go_at_call 13; refine (unhide h13).mono ?_; rintro e w5 ⟨rfl, hb5⟩)
        go_ret
        have hpw : (⟨x.nm, x.first, x'.last, x.rs.take (f - x.first)⟩ : PW) = x' := by
          rw [← (unhide HO).rs, ← (unhide HO).nm, ← (unhide HO).first, List.take_of_length_le (by omega)]
        refine ⟨rfl, x'.last, c + k, d', ?_, (unhide HO).kp.trans ((unhide HO).wa.kp hb5), ?_, hckk, (unhide HO).room⟩
        · rw [hpw]; exact (unhide HO).wa.up hb5
        · rw [hpw]; exact (unhide HO).inv.inw
      · have hfl : f < x'.first + x'.rs.length := by omega
        have hE1 : ((f : Int) == ((x'.first + x'.rs.length : Nat) : Int)) = false := by rw [beq_eq_false_iff_ne]; omega
        obtain ⟨hhas, hfile⟩ : hasF d'.seen (pth x'.nm x'.last) = true ∧ x'.file f = x'.last := by
          rcases (unhide HO).inv.lst with ⟨h0, _⟩ | ⟨m, h1, h2, h3, h4⟩
          · rw [h0] at hfl; simp at hfl; omega
          · exact ⟨h4, by unfold PW.file; omega⟩
        have hst := (unhide HO).inv.start hff (by unfold PW.next; omega)
        rw [hfile] at hst
        have htr := tr_ok (d := d') (n := pth x'.nm x'.last) (k := x'.start f) (pth_ok hnl _) hhas hst
        have h41 := hide (fun W' (hb : Bel wr W') => start_any ((unhide HO).wa.up hb) hIs f hff (by omega))
        have hp := hide (fun W' (hb : Bel wr W') => path_any (hb.row (unhide HR2)) ((unhide HG).next ((unhide HO).wa.bel.trans hb)) hnl x'.last (by omega))
        have ha := hide (fun W' (hb : Bel wr W') => Wa.call ((unhide HO).wa.up hb) (fun M B hk => trunc_any hk (pth x'.nm x'.last) (x'.start f) (by rw [pth_len]; unfold maxLen; omega) (by omega) hC))
        rw [htr] at ha
        have hw1 : Hid (Inw (c + k + 1) ⟨x'.nm, x'.first, x'.last, x'.rs.take (f - x'.first)⟩ ⟨d'.room, run5 d'.seen (.tr (pth x'.nm x'.last) (x'.start f)), d'.synced, d'.ops ++ [.tr (pth x'.nm x'.last) (x'.start f)]⟩) := by
          have hi0 := (unhide HO).inv.inw
          have ht := tot_put (unhide HO).inv.srt (pth x'.nm x'.last) ((get d'.seen (pth x'.nm x'.last)).take (x'.start f))
          rw [List.length_take] at ht
          have hlp := len_put_has hhas ((get d'.seen (pth x'.nm x'.last)).take (x'.start f))
          have q1 := hi0.tot
          have q2 := hi0.len
          have g1 : tot (run5 d'.seen (.tr (pth x'.nm x'.last) (x'.start f))) ≤ 308 * (c + k + 1) := by show tot (put _ _ _) ≤ _; omega
          have g2 : (run5 d'.seen (.tr (pth x'.nm x'.last) (x'.start f))).length ≤ c + k + 1 := by show (put _ _ _).length ≤ _; omega
          refine ⟨hi0.nm1, hi0.nm2, g1, g2, by simp; omega, by have := hi0.fi; show x'.first ≤ _; omega, by show (x'.rs.take _).length ≤ _; rw [List.length_take]; omega, fun r hr => ?_⟩
          have := hi0.ends r (List.mem_of_mem_take hr)
          omega
        generalize hnz : x'.first + x'.rs.length = nz at h13 hE1
        clear htr hst hhas hfile hnz
        go_wp2_with (go_at_call 13; refine (unhide h13).mono ?_; rintro e w5 ⟨rfl, hb5⟩)
        have s0 : w5.drew.cell? ⟨q, 0, none⟩ = some (.pointer (some ⟨p, 0, none⟩)) := cell_of (hb5.row (unhide HR2))
        have t0 : w5.drew.cell? ⟨q, 3, none⟩ = some (.int .i64 (x'.last : Nat)) := cell_of (hb5.row (unhide HR2))
        go_region_held3 (fun W => W.cell? ⟨q, 0, none⟩ = some (.pointer (some ⟨p, 0, none⟩)) ∧ W.cell? ⟨q, 3, none⟩ = some (.int .i64 (x'.last : Nat))) (first | exact ⟨s0, t0⟩ | exact ⟨s1, t1⟩ | exact ⟨s7, t7⟩ | exact ⟨s2, t2⟩ | go_simp)
          ((first
            | (go_at_call 37; refine ((unhide hp) _ hb5.drew).mono ?_; rintro e w6 ⟨rfl, hb6⟩; have hb56 := hb5.drew.trans hb6; have s1 : w6.cell? ⟨q, 0, none⟩ = some (.pointer (some ⟨p, 0, none⟩)) := cell_of (hb56.row (unhide HR2)); have t1 : w6.cell? ⟨q, 3, none⟩ = some (.int .i64 (x'.last : Nat)) := cell_of (hb56.row (unhide HR2)))
            | (go_at_call 41; refine ((unhide h41) _ hb56).mono ?_; rintro e w7 ⟨rfl, hb7⟩; have hb57 := hb56.trans hb7; have s7 : w7.cell? ⟨q, 0, none⟩ = some (.pointer (some ⟨p, 0, none⟩)) := cell_of (hb57.row (unhide HR2)); have t7 : w7.cell? ⟨q, 3, none⟩ = some (.int .i64 (x'.last : Nat)) := cell_of (hb57.row (unhide HR2)))
            | (go_at_call 40; refine ((unhide ha) _ hb57).mono ?_; rintro e w8 ⟨rfl, hwa4, hkp4⟩; have H4 := hide hwa4; have KP4 := hide hkp4; clear hwa4 hkp4; have s2 : w8.cell? ⟨q, 0, none⟩ = some (.pointer (some ⟨p, 0, none⟩)) := (unhide H4).see.elim fun _ h => h.elim fun _ h => cell_of h.1; have t2 : w8.cell? ⟨q, 3, none⟩ = some (.int .i64 (x'.last : Nat)) := (unhide H4).see.elim fun _ h => h.elim fun _ h => cell_of h.1)))
        all_goals
          clear s0 t0 s1 t1 s2 t2 s7 t7 t3
          have h39 := hide (forget_any (unhide H4) hIs f hff (by omega))
          go_wp2_with (go_at_call 39; refine (unhide h39).mono ?_; rintro e w9 ⟨rfl, hwa5, hkp5⟩)
          go_ret
          have hpw : (⟨x.nm, x.first, x'.last, x.rs.take (f - x.first)⟩ : PW) = ⟨x'.nm, x'.first, x'.last, x'.rs.take (f - x'.first)⟩ := by
            rw [← (unhide HO).rs, ← (unhide HO).nm, ← (unhide HO).first]
          refine ⟨rfl, x'.last, c + k + 1, ⟨d'.room, run5 d'.seen (.tr (pth x'.nm x'.last) (x'.start f)), d'.synced, d'.ops ++ [.tr (pth x'.nm x'.last) (x'.start f)]⟩, ?_, (unhide HO).kp.trans ((((unhide HO).wa.kp hb57).trans (unhide KP4)).trans hkp5), ?_, ?_, (unhide HO).room⟩
          · rw [hpw]; exact hwa5
          · rw [hpw]; exact unhide hw1
          · have := (unhide HO).kk; omega
end Go.Proofs.YtgimciacapfbfaaGreatDoor
