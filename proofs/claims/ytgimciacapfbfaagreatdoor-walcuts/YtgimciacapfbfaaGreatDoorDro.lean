/- Drop. -/
import Derived.Test.YtgimciacapfbfaaGreatDoorFor
import Derived.Test.YtgimciacapfbfaaGreatDoorTak
namespace Go.Proofs.YtgimciacapfbfaaGreatDoor
open Go.RowKit Go.Maps Go.WideMaps
theorem rm_ok {d : PD} {n : List UInt8} (h1 : badN n = false) (h2 : hasF d.seen n = true) : d.rm n = (0, ⟨d.room, del d.seen n, d.synced, d.ops ++ [.rm n]⟩) := by
  unfold PD.rm
  rw [h1, if_neg (by simp), h2, if_pos rfl]
  rfl
/-- A number in a cell. -/
def mz (q off : Nat) (W : World) : Nat := ((W.cell? ⟨q, off, none⟩).map (fun v => (intOf v).toNat)).getD 0
theorem Wa.mz2 {w0 W : World} {C : Nat} {G : Nat → Prop} {q p : Nat} {x : PW} {d : PD} (h : Wa w0 C G W q p x d) : mz q 2 W = x.first := by
  obtain ⟨a, c, hr, _, _⟩ := h.see
  unfold mz
  rw [show W.cell? ⟨q, 2, none⟩ = some (.int .i64 (x.first : Nat)) from cell_of hr]
  rfl
theorem Wa.mz3 {w0 W : World} {C : Nat} {G : Nat → Prop} {q p : Nat} {x : PW} {d : PD} (h : Wa w0 C G W q p x d) : mz q 3 W = x.last := by
  obtain ⟨a, c, hr, _, _⟩ := h.see
  unfold mz
  rw [show W.cell? ⟨q, 3, none⟩ = some (.int .i64 (x.last : Nat)) from cell_of hr]
  rfl
theorem Inv.seg {c : Nat} {x : PW} {d : PD} (h : Inv c x d) (hl : x.first < x.last) : ∃ m, x.last = x.first + 32 * (m + 1) ∧ 32 * (m + 1) < x.rs.length ∧ x.rs.length ≤ 32 * (m + 1) + 32 ∧ hasF d.seen (pth x.nm x.last) = true := by
  rcases h.lst with ⟨_, h0⟩ | ⟨m, h1, h2, h3, h4⟩
  · omega
  · obtain ⟨k, rfl⟩ : ∃ k, m = k + 1 := ⟨m - 1, by omega⟩
    exact ⟨k, h1, h2, h3, h4⟩
theorem inv_drop {c : Nat} {x : PW} {d : PD} (h : Inv c x d) (hc : c ≤ 3000) (hl : x.first < x.last) : d.rm (pth x.nm x.first) = (0, ⟨d.room, del d.seen (pth x.nm x.first), d.synced, d.ops ++ [.rm (pth x.nm x.first)]⟩) ∧ Inv (c + 1) ⟨x.nm, x.first + 32, x.last, x.rs.drop 32⟩ ⟨d.room, del d.seen (pth x.nm x.first), d.synced, d.ops ++ [.rm (pth x.nm x.first)]⟩ ∧ 32 ≤ x.rs.length := by
  obtain ⟨m, h1, h2, h3, h4⟩ := h.seg hl
  have hf0 := h.fil 0 (by omega)
  have hfi := h.fi
  have hrl := h.rl
  rw [show x.file (x.first + 0) = x.first by rw [file_at]; omega] at hf0
  refine ⟨rm_ok (pth_ok h.nm2 _) hf0.1, ?_, by omega⟩
  have htd := tot_del (n := pth x.nm x.first) (srt_ne h.srt)
  have htt := h.tot
  have hld := len_del d.seen (pth x.nm x.first)
  have hll := h.len
  have hoo := h.ops
  have hpo := h.pos
  have g1 : tot (del d.seen (pth x.nm x.first)) ≤ 308 * (c + 1) := by omega
  have g2 : (del d.seen (pth x.nm x.first)).length ≤ c + 1 := by omega
  refine ⟨h.nm1, h.nm2, del_srt h.srt _, g1, g2, by simp; omega, by show x.first + 32 ≤ _; omega, by show (x.rs.drop 32).length ≤ _; rw [List.length_drop]; omega, Or.inr ⟨m, by show x.last = x.first + 32 + 32 * m; omega, by show 32 * m < (x.rs.drop 32).length; rw [List.length_drop]; omega, by show (x.rs.drop 32).length ≤ _; rw [List.length_drop]; omega, has_del h4 (fun e => by have e' : pth x.nm x.last = pth x.nm x.first := e; have := pth_inj (a := x.last) (b := x.first) (by omega) (by omega) e'; omega)⟩, by show 1 ≤ x.first + 32; omega, fun j hj => ?_⟩
  have hj' : j + 32 < x.rs.length := by
    have : j < (x.rs.drop 32).length := hj
    rw [List.length_drop] at this; omega
  have hf := h.fil (j + 32) hj'
  have e1 : PW.file ⟨x.nm, x.first + 32, x.last, x.rs.drop 32⟩ (x.first + 32 + j) = x.file (x.first + (j + 32)) := by
    unfold PW.file; show x.first + 32 + j - (x.first + 32 + j - (x.first + 32)) % 32 = _; omega
  have hne : pth x.nm (x.file (x.first + (j + 32))) ≠ pth x.nm x.first := fun e => by
    have h5 := file_at x (j + 32)
    have := pth_inj (by omega) (by omega) e
    omega
  show hasF _ (pth x.nm (PW.file _ (x.first + 32 + j))) = true ∧ _ ≤ (get _ (pth x.nm (PW.file _ (x.first + 32 + j)))).length
  rw [e1]
  refine ⟨has_del hf.1 hne, ?_⟩
  rw [get_del_ne hne]
  have e2 : (x.rs.drop 32)[j]'hj = x.rs[j + 32] := by rw [List.getElem_drop]; congr 1; omega
  show ((x.rs.drop 32)[j]'hj).2 ≤ _
  rw [e2]
  exact hf.2
/-- Some files ahead are dropped. -/
structure Drp (w0 : World) (C c : Nat) (G : Nat → Prop) (q p : Nat) (x : PW) (room : Nat) (W0 : World) (k : Nat) (x' : PW) (d' : PD) (W : World) : Prop where
  wa : Wa w0 C G W q p x' d'
  kp : Kp G W0 W
  inv : Inv (c + k) x' d'
  le : 32 * k ≤ x.rs.length
  nm : x'.nm = x.nm
  first : x'.first = x.first + 32 * k
  last : x'.last = x.last
  rs : x'.rs = x.rs.drop (32 * k)
  room : d'.room = room
set_option maxRecDepth 100000 in
set_option maxHeartbeats 4000000 in
theorem drop_any {w0 W : World} {C c : Nat} {G : Nat → Prop} {q p : Nat} {x : PW} {d : PD} (h : Wa w0 C G W q p x d) (hg : Gl w0) (hv : Inv c x d) (hc : c ≤ 1000) (hC : C ≤ 1099511627776) (b : Nat) (hb : b ≤ x.next) :
    Calls Tryz.prog 18 #[.pointer (some ⟨q, 0, none⟩), .int .i64 b] W fun e w' => e = .returned (.int .i64 0) ∧ ∃ k x' d', Drp w0 C c G q p x d.room W k x' d' w' := by
  have hi := hv.is (by omega)
  have h13 := hide (next_any h hi)
  obtain ⟨a, cc, hr, _, _⟩ := h.see
  have h24 := hide (gone_any hr hi.nm)
  have hfu := Tryz.follows
  have hnb : ¬ ((x.first + x.rs.length : Nat) : Int) < (b : Int) := by unfold PW.next at hb; omega
  have hfi := hi.fi
  have hle := hi.le
  have hrl0 := hv.rl
  have hn2 := hv.nm2
  have H0 : Hid (Drp w0 C c G q p x d.room W 0 x d W) := ⟨h, Kp.refl _ _, hv, by omega, rfl, rfl, rfl, rfl, rfl⟩
  have H := hide h
  have HG := hide hg
  generalize x.first + x.rs.length = nx at h13 hnb
  have hnb2 : ¬ nx < b := by omega
  clear h hv hi hr hg
  go_enter Tryz.func18, Tryz.ntmps18
  go_wp2_with (first
    | (go_at_call 24; refine (unhide h24).mono ?_; rintro e w1 ⟨rfl, hw1⟩; rw [hw1]; clear hw1)
    | (go_at_call 13; refine (unhide h13).mono ?_; rintro e w2 ⟨rfl, hb2⟩))
  have H2 : Hid (Drp w0 C c G q p x d.room W 0 x d w2) := ⟨(unhide H).up hb2, (unhide H).kp hb2, (unhide H0).inv, (unhide H0).le, rfl, rfl, rfl, rfl, rfl⟩
  clear H0 h24 h13
  go_loopw [5] (fun _ wr => ∃ k x' d', Hid (Drp w0 C c G q p x d.room W k x' d' wr)) (fun _ wr => x.last - mz q 2 wr)
  case atStart => exact ⟨0, x, d, H2⟩
  case round =>
    obtain ⟨k, x', d', HO⟩ := hrel
    obtain ⟨a2, c2, hr2, _, _⟩ := (unhide HO).wa.see
    have HR2 := hide hr2
    have k2 : ∀ p2 : BelBy wr, p2.W.cell? ⟨q, 2, none⟩ = some (.int .i64 (x'.first : Nat)) := fun p2 => cell_of (p2.h.row (unhide HR2))
    have k3 : ∀ p2 : BelBy wr, p2.W.cell? ⟨q, 3, none⟩ = some (.int .i64 (x'.last : Nat)) := fun p2 => cell_of (p2.h.row (unhide HR2))
    have hne := BelBy.some wr
    have hfb : x'.first ≤ 1000000 := by have h1 := (unhide HO).first; have h2 := (unhide HO).le; omega
    have hckk : c + k ≤ 3000 := by have h2 := (unhide HO).le; omega
    clear hr2
    by_cases hA : x'.first < x'.last
    · have hA1 : (x'.first : Int) < (x'.last : Int) := by omega
      by_cases hB : x'.first + 32 ≤ b
      · have hB1 : (x'.first : Int) + 32 ≤ (b : Int) := by omega
        go_wp2_with fail
        refine wp_region_bel hfu (by kernel_rfl) ?_
        repeat (go_big_quiet_step (fail))
        refine wpQuiet_nil ?_
        rintro W2 ⟨p2, rfl⟩
        obtain ⟨hrm, hinv, h32⟩ := inv_drop (unhide HO).inv hckk hA
        have hol := (unhide HO).inv.ops
        have hnl := (unhide HO).inv.nm2
        have s0 : p2.W.drew.cell? ⟨q, 0, none⟩ = some (.pointer (some ⟨p, 0, none⟩)) := cell_of (p2.h.row (unhide HR2))
        have t0 : p2.W.drew.cell? ⟨q, 2, none⟩ = some (.int .i64 (x'.first : Nat)) := cell_of (p2.h.row (unhide HR2))
        have hp := hide (fun W' (hb : Bel wr W') => path_any (hb.row (unhide HR2)) ((unhide HG).next ((unhide HO).wa.bel.trans hb)) hnl x'.first (by omega))
        have ha := hide (fun W' (hb : Bel wr W') => Wa.call ((unhide HO).wa.up hb) (fun M B hk => remove_any hk (pth x'.nm x'.first) (by rw [pth_len]; unfold maxLen; omega) (by omega) hC))
        rw [hrm] at ha
        have HINV := hide hinv
        have HRM := hide hrm
        clear hinv k2 k3 hne hrm
        go_wp2_with fail
        go_region_held3 (fun W => W.cell? ⟨q, 0, none⟩ = some (.pointer (some ⟨p, 0, none⟩)) ∧ W.cell? ⟨q, 2, none⟩ = some (.int .i64 (x'.first : Nat))) (first | exact ⟨s0, t0⟩ | exact ⟨s1, t1⟩ | exact ⟨s2, t2⟩ | go_simp)
          ((first
            | (go_at_call 37; refine ((unhide hp) _ p2.h.drew).mono ?_; rintro e w3 ⟨rfl, hb3⟩; have s1 : w3.cell? ⟨q, 0, none⟩ = some (.pointer (some ⟨p, 0, none⟩)) := cell_of ((p2.h.drew.trans hb3).row (unhide HR2)); have t1 : w3.cell? ⟨q, 2, none⟩ = some (.int .i64 (x'.first : Nat)) := cell_of ((p2.h.drew.trans hb3).row (unhide HR2)))
            | (go_at_call 36; refine ((unhide ha) _ (p2.h.drew.trans hb3)).mono ?_; rintro e w4 ⟨rfl, hwa4, hkp4⟩; have H4 := hide hwa4; have KP4 := hide hkp4; clear hwa4 hkp4; have s2 : w4.cell? ⟨q, 0, none⟩ = some (.pointer (some ⟨p, 0, none⟩)) := (unhide H4).see.elim fun _ h => h.elim fun _ h => cell_of h.1; have t2 : w4.cell? ⟨q, 2, none⟩ = some (.int .i64 (x'.first : Nat)) := (unhide H4).see.elim fun _ h => h.elim fun _ h => cell_of h.1)))
        all_goals
          have f2 : w4.frozen? ⟨q, 2, none⟩ = false := (unhide H4).see.elim fun _ h => h.elim fun _ h => free_row h.1
          clear s0 t0 s1 t1 s2
          have H5 := hide (wa_first (unhide H4) (x'.first + 32))
          obtain ⟨w5, hw5⟩ : ∃ z, z = w4.setCell ⟨q, 2, none⟩ (.int .i64 ((x'.first : Int) + 32)) := ⟨_, rfl⟩
          rw [show w4.setCell ⟨q, 2, none⟩ (.int .i64 ((x'.first + 32 : Nat) : Int)) = w5 from hw5.symm] at H5
          obtain ⟨v, M, B, hw, hdk, hap⟩ := (unhide H5).1.ex
          obtain ⟨g, cap, rfl, hc1, hc2⟩ := own_more hw.own (show 0 < x'.rs.length by omega)
          have c4 : (w4.setCell ⟨q, 2, none⟩ (.int .i64 ((x'.first : Int) + 32))).cell? ⟨q, 4, none⟩ = some (.slice (some ⟨g, 0, none⟩) x'.rs.length cap) := by rw [← hw5]; exact cell_of hw.row
          have h38 := hide (delete_any g x'.rs.length cap 0 32 x'.rs w5 hw.own (by omega) h32 rfl hc1 hc2)
          rw [List.take_zero, List.nil_append] at h38
          have HW := hide hw
          have HDK := hide hdk
          have HAP := hide hap
          clear hw hdk hap
          go_wp2_with (go_at_call 38; rw [← hw5]; refine (unhide h38).mono ?_; rintro e w6 ⟨rfl, hown6, hch6⟩; have r6 := hide (hch6.row (unhide HW).row (fun e => ((unhide HAP).av g rfl).2.2.2 e.symm)); have s6 : w6.cell? ⟨q, 4, none⟩ = some (.slice (some ⟨g, 0, none⟩) x'.rs.length cap) := cell_of (unhide r6); have f6 := free_row (p := 4) (unhide r6))
          have hT := hide (wa_cut (unhide HW) (unhide HDK) (unhide HAP) (unhide H5).1.lt (unhide H5).1.g0 (unhide H5).1.bel hch6 (x'.rs.length - 32) (by rw [List.length_drop]) hown6 rfl)
          have hkk := hide ((unhide HO).kp.trans ((((unhide HO).wa.kp (p2.h.drew.trans hb3)).trans (unhide KP4)).trans ((unhide H5).2.trans (unhide hT).2)))
          clear hown6 hch6
          go_roundw
          case rel =>
            have hrs := (unhide HO).rs
            have hll := (unhide HO).le
            have hff := (unhide HO).first
            refine ⟨k + 1, _, _, ⟨(unhide hT).1, unhide hkk, unhide HINV, ?_, (unhide HO).nm, ?_, (unhide HO).last, ?_, (unhide HO).room⟩⟩
            · rw [hrs, List.length_drop] at h32; omega
            · show x'.first + 32 = _; omega
            · show x'.rs.drop 32 = _
              rw [hrs, List.drop_drop]
              congr 1
          case measure =>
            rw [(unhide hT).1.mz2, (unhide HO).wa.mz2]
            have hll := (unhide HO).last
            show x.last - (x'.first + 32) < x.last - x'.first
            omega
      · have hB1 : ¬ (x'.first : Int) + 32 ≤ (b : Int) := by omega
        go_wp2_with fail
        refine wp_region_bel hfu (by kernel_rfl) ?_
        repeat (go_big_quiet_step (fail))
        refine wpQuiet_nil ?_
        rintro W2 ⟨p2, rfl⟩
        go_wp2_with fail
        go_ret
        exact ⟨rfl, k, x', d', ⟨(unhide HO).wa.up p2.h, (unhide HO).kp.trans ((unhide HO).wa.kp p2.h), (unhide HO).inv, (unhide HO).le, (unhide HO).nm, (unhide HO).first, (unhide HO).last, (unhide HO).rs, (unhide HO).room⟩⟩
    · have hA1 : ¬ (x'.first : Int) < (x'.last : Int) := by omega
      go_wp2_with fail
      refine wp_region_bel hfu (by kernel_rfl) ?_
      repeat (go_big_quiet_step (fail))
      refine wpQuiet_nil ?_
      rintro W2 ⟨p2, rfl⟩
      go_wp2_with fail
      go_ret
      exact ⟨rfl, k, x', d', ⟨(unhide HO).wa.up p2.h, (unhide HO).kp.trans ((unhide HO).wa.kp p2.h), (unhide HO).inv, (unhide HO).le, (unhide HO).nm, (unhide HO).first, (unhide HO).last, (unhide HO).rs, (unhide HO).room⟩⟩
end Go.Proofs.YtgimciacapfbfaaGreatDoor
