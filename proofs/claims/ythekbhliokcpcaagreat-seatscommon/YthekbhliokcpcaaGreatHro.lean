/- mayReads, mayStand of any member. -/
import Derived.Test.YthekbhliokcpcaaGreatHpe
import Derived.Test.YthekbhliokcpcaaGreatRol
namespace Go.Proofs.YthekbhliokcpcaaGreat
open Go.RowKit Go.Maps Go.Sort
/-- Readings that may be, behind one of that round. -/
def reasB (round commit : Int) : Option Int → List GR → Bool
  | _, [] => true
  | p, r :: l => (match p with | none => true | some q => !decide (r.r ≤ q)) && ((!decide (round < r.r) && !decide (commit < r.i) && aids 0 r.a) && reasB round commit (some r.r) l)
def reaB (s : GP) : Bool := reasB s.round s.commit none s.reads
/-- The round ahead of the k-th. -/
def prevX (L : List (GR × GA)) : Nat → Option Int
  | 0 => none
  | k + 1 => (L[k]?).map (·.1.r)
theorem prevX_succ (L : List (GR × GA)) (k : Nat) : prevX L (k + 1) = (L[k]?).map (·.1.r) := rfl
set_option maxRecDepth 100000 in
set_option maxHeartbeats 8000000 in
theorem reads_g {W : World} {s : GP} {x : Px} (h : SlR W x.aR s.reads) (hl : s.reads.length ≤ 1000000) (ha : ∀ r ∈ s.reads, r.a.length ≤ 17592186044416) : Calls Tryz.prog 190 #[.agg (gc s x)] W fun e w' => e = .returned (.bool (reaB s)) ∧ Bel W w' := by
  obtain ⟨aR, hxr⟩ : ∃ a, a = x.aR := ⟨_, rfl⟩
  rw [← hxr] at h
  have HXR := hide hxr
  clear hxr
  obtain ⟨L, hL, ⟨g, off, hg, hR⟩, hG⟩ := h
  have hLn : L.length = s.reads.length := by rw [← hL, List.length_map]
  have HA : Hid (∀ (y : GR × GA) (w' : World), y ∈ L → Bel W w' → Calls Tryz.prog 188 #[.slice y.2.a y.1.a.length y.2.c] w' fun e w'' => e = .returned (.bool (aids 0 y.1.a)) ∧ w'' = w') := hide (fun y w' hy hb => areIds_any ((hG y hy).bel hb) y.2.c (by have := ha _ (by rw [← hL]; exact List.mem_map_of_mem hy); omega))
  unfold reaB
  generalize hrn : s.reads.length = rn at *
  have HG := hide hg
  have HR := hide hR
  have HL := hide hL
  have HLN := hide hLn
  clear hg hR hG ha hL hLn
  go_enter Tryz.func190, Tryz.ntmps190
  go_wp2_with (first
    | (refine bx_box rfl 31 _ rfl (gc s x) rfl ?_; intro b w0 hr0 hs0 hb0; have y17 := (Bg.of hr0).c17; rw [hrn, ← unhide HXR] at y17; have HR0 := hide hr0; have HB0 := hide hb0; clear hr0 hs0 hb0))
  clear hrn
  go_loopw [8] (fun vk wr => ∃ k : Nat, k ≤ rn ∧ vk = .int .i64 k ∧ Hid (Bel w0 wr) ∧ Hid (reasB s.round s.commit none s.reads = reasB s.round s.commit (prevX L k) ((L.drop k).map (·.1)))) (fun vk _ => rn - (intOf vk).toNat)
  case atStart => exact ⟨0, Nat.zero_le _, rfl, hide (Bel.refl _), hide (by rw [← unhide HL]; rfl)⟩
  case round =>
    obtain ⟨k, hk, rfl, HB, HE⟩ := hrel
    by_cases hlt : k < rn
    · have hkl : k < L.length := by rw [unhide HLN]; exact hlt
      obtain rfl := (unhide HG) (by rw [unhide HLN]; omega)
      have hkn : (k : Int) < rn := by omega
      have z17 := (unhide HB).cell y17
      have z16 := (unhide HB).cell (Bg.of (unhide HR0)).c16
      have z11 := (unhide HB).cell (Bg.of (unhide HR0)).c11
      obtain ⟨r0, r1, r2⟩ := ER_cell (unhide HR) k hkl
      have r0 := ((unhide HB0).trans (unhide HB)).cell r0
      have r1 := ((unhide HB0).trans (unhide HB)).cell r1
      have r2 := ((unhide HB0).trans (unhide HB)).cell r2
      have HA2 : Hid (∀ w', Bel wr w' → Calls Tryz.prog 188 #[.slice L[k].2.a L[k].1.a.length L[k].2.c] w' fun e w'' => e = .returned (.bool (aids 0 L[k].1.a)) ∧ w'' = w') := hide (fun w' hb => (unhide HA) L[k] w' (List.getElem_mem hkl) (((unhide HB0).trans (unhide HB)).trans hb))
      have HYK : Hid (L[k]? = some L[k]) := hide (List.getElem?_eq_getElem hkl)
      have HD : Hid (∀ p, reasB s.round s.commit p ((L.drop k).map (·.1)) = ((match p with | none => true | some q => !decide (L[k].1.r ≤ q)) && ((!decide (s.round < L[k].1.r) && !decide (s.commit < L[k].1.i) && aids 0 L[k].1.a) && reasB s.round s.commit (some L[k].1.r) ((L.drop (k + 1)).map (·.1))))) := hide (fun p => by rw [List.drop_eq_getElem_cons hkl]; rfl)
      have HK := hide hkl
      clear y17
      have HPV : Hid (∀ j, k = j + 1 → ∃ q, prevX L k = some q ∧ wr.cell? ⟨g, off + j * 3, none⟩ = some (.int .u64 q)) := hide (fun j e => by
        have hjl : j < L.length := by have := unhide HK; omega
        refine ⟨L[j].1.r, ?_, ((unhide HB0).trans (unhide HB)).cell (ER_cell (unhide HR) j hjl).1⟩
        rw [e, prevX_succ, List.getElem?_eq_getElem hjl]; rfl)
      generalize L[k] = y at *
      obtain ⟨⟨yr, yi, ya⟩, ax, cx⟩ := y
      simp only at r0 r1 r2 HA2 HD HYK
      generalize aids 0 ya = ba at *
      generalize ya.length = yn at *
      rcases Nat.eq_zero_or_pos k with hk0 | hk0
      · subst hk0
        have HP : prevX L 0 = none := rfl
        replace HD := hide ((unhide HD) (prevX L 0))
        rw [HP] at HD HE
        have HD2 : Hid (reasB s.round s.commit none ((L.drop 0).map (·.1)) = ((!decide (s.round < yr) && !decide (s.commit < yi) && ba) && reasB s.round s.commit (some yr) ((L.drop (0 + 1)).map (·.1)))) := hide (by rw [unhide HD]; simp)
        simp only [Nat.zero_mul, Nat.add_zero] at r0 r1 r2
        by_cases c1 : s.round < yr
        · have HF : Hid (reasB s.round s.commit none s.reads = false) := hide (by rw [unhide HE, unhide HD2]; simp [c1])
          go_wp2_with fail
          go_quiet (fail)
          have hbn : Bel wr ((wr.alloc (.cells #[.int .u64 yr, .int .u64 yi, .slice ax yn cx] 104)).drewN nq) := ((Bel.refl _).alloc _).drewN _
          have hrz : ((wr.alloc (.cells #[.int .u64 yr, .int .u64 yi, .slice ax yn cx] 104)).drewN nq).heap[wr.heap.size]? = some (.cells #[.int .u64 yr, .int .u64 yi, .slice ax yn cx] 104) := at_new wr _
          generalize ((wr.alloc (.cells #[.int .u64 yr, .int .u64 yi, .slice ax yn cx] 104)).drewN nq) = wz at *
          generalize wr.heap.size = bz at *
          have q0 : wz.cell? ⟨bz, 0, none⟩ = some (.int .u64 yr) := cell_of hrz
          have q1 : wz.cell? ⟨bz, 1, none⟩ = some (.int .u64 yi) := cell_of hrz
          have q2 : wz.cell? ⟨bz, 2, none⟩ = some (.slice ax yn cx) := cell_of hrz
          have q16 := hbn.cell z16
          have q11 := hbn.cell z11
          have HBN := hide hbn
          clear hbn hrz
          go_wp2_with (first
            | (go_at_call 188; refine (unhide HA2 _ (unhide HBN)).mono ?_; rintro e w9 ⟨rfl, hw9⟩; rw [hw9]; clear hw9))
          go_ret
          exact ⟨by rw [unhide HF]; rfl, (unhide HB0).trans ((unhide HB).trans (unhide HBN))⟩
        · by_cases c2 : s.commit < yi
          · have HF : Hid (reasB s.round s.commit none s.reads = false) := hide (by rw [unhide HE, unhide HD2]; simp [c2])
            go_wp2_with fail
            go_quiet (fail)
            have hbn : Bel wr ((wr.alloc (.cells #[.int .u64 yr, .int .u64 yi, .slice ax yn cx] 104)).drewN nq) := ((Bel.refl _).alloc _).drewN _
            have hrz : ((wr.alloc (.cells #[.int .u64 yr, .int .u64 yi, .slice ax yn cx] 104)).drewN nq).heap[wr.heap.size]? = some (.cells #[.int .u64 yr, .int .u64 yi, .slice ax yn cx] 104) := at_new wr _
            generalize ((wr.alloc (.cells #[.int .u64 yr, .int .u64 yi, .slice ax yn cx] 104)).drewN nq) = wz at *
            generalize wr.heap.size = bz at *
            have q0 : wz.cell? ⟨bz, 0, none⟩ = some (.int .u64 yr) := cell_of hrz
            have q1 : wz.cell? ⟨bz, 1, none⟩ = some (.int .u64 yi) := cell_of hrz
            have q2 : wz.cell? ⟨bz, 2, none⟩ = some (.slice ax yn cx) := cell_of hrz
            have q16 := hbn.cell z16
            have q11 := hbn.cell z11
            have HBN := hide hbn
            clear hbn hrz
            go_wp2_with (first
              | (go_at_call 188; refine (unhide HA2 _ (unhide HBN)).mono ?_; rintro e w9 ⟨rfl, hw9⟩; rw [hw9]; clear hw9))
            go_ret
            exact ⟨by rw [unhide HF]; rfl, (unhide HB0).trans ((unhide HB).trans (unhide HBN))⟩
          · cases ba with
            | false =>
              have HF : Hid (reasB s.round s.commit none s.reads = false) := hide (by rw [unhide HE, unhide HD2]; simp)
              go_wp2_with fail
              go_quiet (fail)
              have hbn : Bel wr ((wr.alloc (.cells #[.int .u64 yr, .int .u64 yi, .slice ax yn cx] 104)).drewN nq) := ((Bel.refl _).alloc _).drewN _
              have hrz : ((wr.alloc (.cells #[.int .u64 yr, .int .u64 yi, .slice ax yn cx] 104)).drewN nq).heap[wr.heap.size]? = some (.cells #[.int .u64 yr, .int .u64 yi, .slice ax yn cx] 104) := at_new wr _
              generalize ((wr.alloc (.cells #[.int .u64 yr, .int .u64 yi, .slice ax yn cx] 104)).drewN nq) = wz at *
              generalize wr.heap.size = bz at *
              have q0 : wz.cell? ⟨bz, 0, none⟩ = some (.int .u64 yr) := cell_of hrz
              have q1 : wz.cell? ⟨bz, 1, none⟩ = some (.int .u64 yi) := cell_of hrz
              have q2 : wz.cell? ⟨bz, 2, none⟩ = some (.slice ax yn cx) := cell_of hrz
              have q16 := hbn.cell z16
              have q11 := hbn.cell z11
              have HBN := hide hbn
              clear hbn hrz
              go_wp2_with (first
                | (go_at_call 188; refine (unhide HA2 _ (unhide HBN)).mono ?_; rintro e w9 ⟨rfl, hw9⟩; rw [hw9]; clear hw9))
              go_ret
              exact ⟨by rw [unhide HF]; rfl, (unhide HB0).trans ((unhide HB).trans (unhide HBN))⟩
            | true =>
              have HF : Hid (reasB s.round s.commit none s.reads = reasB s.round s.commit (some yr) ((L.drop (0 + 1)).map (·.1))) := hide (by rw [unhide HE, unhide HD2]; simp [c1, c2])
              go_wp2_with fail
              go_quiet (fail)
              have hbn : Bel wr ((wr.alloc (.cells #[.int .u64 yr, .int .u64 yi, .slice ax yn cx] 104)).drewN nq) := ((Bel.refl _).alloc _).drewN _
              have hrz : ((wr.alloc (.cells #[.int .u64 yr, .int .u64 yi, .slice ax yn cx] 104)).drewN nq).heap[wr.heap.size]? = some (.cells #[.int .u64 yr, .int .u64 yi, .slice ax yn cx] 104) := at_new wr _
              generalize ((wr.alloc (.cells #[.int .u64 yr, .int .u64 yi, .slice ax yn cx] 104)).drewN nq) = wz at *
              generalize wr.heap.size = bz at *
              have q0 : wz.cell? ⟨bz, 0, none⟩ = some (.int .u64 yr) := cell_of hrz
              have q1 : wz.cell? ⟨bz, 1, none⟩ = some (.int .u64 yi) := cell_of hrz
              have q2 : wz.cell? ⟨bz, 2, none⟩ = some (.slice ax yn cx) := cell_of hrz
              have q16 := hbn.cell z16
              have q11 := hbn.cell z11
              have HBN := hide hbn
              clear hbn hrz
              go_wp2_with (first
                | (go_at_call 188; refine (unhide HA2 _ (unhide HBN)).mono ?_; rintro e w9 ⟨rfl, hw9⟩; rw [hw9]; clear hw9))
              go_roundw
              case rel => exact ⟨0 + 1, by omega, by go_num, hide ((unhide HB).trans (unhide HBN)), hide (by rw [unhide HF, prevX_succ, unhide HYK]; rfl)⟩
              case measure => simp [intOf]; omega
      · obtain ⟨j, rfl⟩ : ∃ j, k = j + 1 := ⟨k - 1, by omega⟩
        obtain ⟨q, HP, rq⟩ := (unhide HPV) j rfl
        replace HD := hide ((unhide HD) (prevX L (j + 1)))
        rw [HP] at HD HE
        have hjw : IntKind.i64.wrap (((j + 1 : Nat) : Int) - 1) = (j : Int) := by rw [show (((j + 1 : Nat) : Int) - 1) = (j : Int) by omega]; exact wrapI (by omega) (by omega)
        have hjn : (j : Int) < rn := by omega
        have z17a := ((Bel.refl wr).alloc (.cells #[.int .u64 yr, .int .u64 yi, .slice ax yn cx] 104)).cell z17
        have rqa := ((Bel.refl wr).alloc (.cells #[.int .u64 yr, .int .u64 yi, .slice ax yn cx] 104)).cell rq
        have hj0 : (0 : Int) < ((j + 1 : Nat) : Int) := by omega
        have hjj : (0 : Int) ≤ (j : Int) := by omega
        by_cases c0 : yr ≤ q
        · have HF : Hid (reasB s.round s.commit none s.reads = false) := hide (by rw [unhide HE, unhide HD]; simp [c0])
          go_wp2_with fail
          go_quiet (fail)
          go_wp2_with fail
          go_ret
          exact ⟨by rw [unhide HF]; rfl, (unhide HB0).trans (((unhide HB).alloc _).drewN _)⟩
        · have HD2 : Hid (reasB s.round s.commit (some q) ((L.drop (j + 1)).map (·.1)) = ((!decide (s.round < yr) && !decide (s.commit < yi) && ba) && reasB s.round s.commit (some yr) ((L.drop (j + 1 + 1)).map (·.1)))) := hide (by rw [unhide HD]; simp [c0])
          by_cases c1 : s.round < yr
          · have HF : Hid (reasB s.round s.commit none s.reads = false) := hide (by rw [unhide HE, unhide HD2]; simp [c1])
            go_wp2_with fail
            go_quiet (fail)
            have hbn : Bel wr ((wr.alloc (.cells #[.int .u64 yr, .int .u64 yi, .slice ax yn cx] 104)).drewN nq) := ((Bel.refl _).alloc _).drewN _
            have hrz : ((wr.alloc (.cells #[.int .u64 yr, .int .u64 yi, .slice ax yn cx] 104)).drewN nq).heap[wr.heap.size]? = some (.cells #[.int .u64 yr, .int .u64 yi, .slice ax yn cx] 104) := at_new wr _
            generalize ((wr.alloc (.cells #[.int .u64 yr, .int .u64 yi, .slice ax yn cx] 104)).drewN nq) = wz at *
            generalize wr.heap.size = bz at *
            have q0 : wz.cell? ⟨bz, 0, none⟩ = some (.int .u64 yr) := cell_of hrz
            have q1 : wz.cell? ⟨bz, 1, none⟩ = some (.int .u64 yi) := cell_of hrz
            have q2 : wz.cell? ⟨bz, 2, none⟩ = some (.slice ax yn cx) := cell_of hrz
            have q16 := hbn.cell z16
            have q11 := hbn.cell z11
            have HBN := hide hbn
            clear hbn hrz
            go_wp2_with (first
              | (go_at_call 188; refine (unhide HA2 _ (unhide HBN)).mono ?_; rintro e w9 ⟨rfl, hw9⟩; rw [hw9]; clear hw9))
            go_ret
            exact ⟨by rw [unhide HF]; rfl, (unhide HB0).trans ((unhide HB).trans (unhide HBN))⟩
          · by_cases c2 : s.commit < yi
            · have HF : Hid (reasB s.round s.commit none s.reads = false) := hide (by rw [unhide HE, unhide HD2]; simp [c2])
              go_wp2_with fail
              go_quiet (fail)
              have hbn : Bel wr ((wr.alloc (.cells #[.int .u64 yr, .int .u64 yi, .slice ax yn cx] 104)).drewN nq) := ((Bel.refl _).alloc _).drewN _
              have hrz : ((wr.alloc (.cells #[.int .u64 yr, .int .u64 yi, .slice ax yn cx] 104)).drewN nq).heap[wr.heap.size]? = some (.cells #[.int .u64 yr, .int .u64 yi, .slice ax yn cx] 104) := at_new wr _
              generalize ((wr.alloc (.cells #[.int .u64 yr, .int .u64 yi, .slice ax yn cx] 104)).drewN nq) = wz at *
              generalize wr.heap.size = bz at *
              have q0 : wz.cell? ⟨bz, 0, none⟩ = some (.int .u64 yr) := cell_of hrz
              have q1 : wz.cell? ⟨bz, 1, none⟩ = some (.int .u64 yi) := cell_of hrz
              have q2 : wz.cell? ⟨bz, 2, none⟩ = some (.slice ax yn cx) := cell_of hrz
              have q16 := hbn.cell z16
              have q11 := hbn.cell z11
              have HBN := hide hbn
              clear hbn hrz
              go_wp2_with (first
                | (go_at_call 188; refine (unhide HA2 _ (unhide HBN)).mono ?_; rintro e w9 ⟨rfl, hw9⟩; rw [hw9]; clear hw9))
              go_ret
              exact ⟨by rw [unhide HF]; rfl, (unhide HB0).trans ((unhide HB).trans (unhide HBN))⟩
            · cases ba with
              | false =>
                have HF : Hid (reasB s.round s.commit none s.reads = false) := hide (by rw [unhide HE, unhide HD2]; simp)
                go_wp2_with fail
                go_quiet (fail)
                have hbn : Bel wr ((wr.alloc (.cells #[.int .u64 yr, .int .u64 yi, .slice ax yn cx] 104)).drewN nq) := ((Bel.refl _).alloc _).drewN _
                have hrz : ((wr.alloc (.cells #[.int .u64 yr, .int .u64 yi, .slice ax yn cx] 104)).drewN nq).heap[wr.heap.size]? = some (.cells #[.int .u64 yr, .int .u64 yi, .slice ax yn cx] 104) := at_new wr _
                generalize ((wr.alloc (.cells #[.int .u64 yr, .int .u64 yi, .slice ax yn cx] 104)).drewN nq) = wz at *
                generalize wr.heap.size = bz at *
                have q0 : wz.cell? ⟨bz, 0, none⟩ = some (.int .u64 yr) := cell_of hrz
                have q1 : wz.cell? ⟨bz, 1, none⟩ = some (.int .u64 yi) := cell_of hrz
                have q2 : wz.cell? ⟨bz, 2, none⟩ = some (.slice ax yn cx) := cell_of hrz
                have q16 := hbn.cell z16
                have q11 := hbn.cell z11
                have HBN := hide hbn
                clear hbn hrz
                go_wp2_with (first
                  | (go_at_call 188; refine (unhide HA2 _ (unhide HBN)).mono ?_; rintro e w9 ⟨rfl, hw9⟩; rw [hw9]; clear hw9))
                go_ret
                exact ⟨by rw [unhide HF]; rfl, (unhide HB0).trans ((unhide HB).trans (unhide HBN))⟩
              | true =>
                have HF : Hid (reasB s.round s.commit none s.reads = reasB s.round s.commit (some yr) ((L.drop (j + 1 + 1)).map (·.1))) := hide (by rw [unhide HE, unhide HD2]; simp [c1, c2])
                go_wp2_with fail
                go_quiet (fail)
                have hbn : Bel wr ((wr.alloc (.cells #[.int .u64 yr, .int .u64 yi, .slice ax yn cx] 104)).drewN nq) := ((Bel.refl _).alloc _).drewN _
                have hrz : ((wr.alloc (.cells #[.int .u64 yr, .int .u64 yi, .slice ax yn cx] 104)).drewN nq).heap[wr.heap.size]? = some (.cells #[.int .u64 yr, .int .u64 yi, .slice ax yn cx] 104) := at_new wr _
                generalize ((wr.alloc (.cells #[.int .u64 yr, .int .u64 yi, .slice ax yn cx] 104)).drewN nq) = wz at *
                generalize wr.heap.size = bz at *
                have q0 : wz.cell? ⟨bz, 0, none⟩ = some (.int .u64 yr) := cell_of hrz
                have q1 : wz.cell? ⟨bz, 1, none⟩ = some (.int .u64 yi) := cell_of hrz
                have q2 : wz.cell? ⟨bz, 2, none⟩ = some (.slice ax yn cx) := cell_of hrz
                have q16 := hbn.cell z16
                have q11 := hbn.cell z11
                have HBN := hide hbn
                clear hbn hrz
                go_wp2_with (first
                  | (go_at_call 188; refine (unhide HA2 _ (unhide HBN)).mono ?_; rintro e w9 ⟨rfl, hw9⟩; rw [hw9]; clear hw9))
                go_roundw
                case rel => exact ⟨j + 1 + 1, by omega, by go_num, hide ((unhide HB).trans (unhide HBN)), hide (by rw [unhide HF, prevX_succ, unhide HYK]; rfl)⟩
                case measure => simp [intOf]; omega
    · obtain rfl : k = rn := by omega
      have HF : Hid (reasB s.round s.commit none s.reads = true) := hide (by rw [unhide HE, List.drop_of_length_le (by rw [unhide HLN]; omega)]; rfl)
      go_wp2_with fail
      go_ret
      exact ⟨by rw [unhide HF]; rfl, (unhide HB0).trans (unhide HB)⟩
set_option maxRecDepth 100000 in
/-- A vote that is no member's. -/
theorem nomem_g {W : World} {b : Nat} {s : GP} {x : Px} (hb : W.heap[b]? = some (.cells (gc s x) 31)) (h : Sl E3 W x.aM s.M) (hn : s.M.length ≤ 17592186044416) (y : Int) : Calls Tryz.prog 192 #[.int .i64 y, .pointer (some ⟨b, 0, none⟩)] W fun e w' => e = .returned (.bool (!decide (y ∈ s.M))) ∧ w' = W := by
  have HC : Hid (Calls Tryz.prog 82 #[.slice x.aM s.M.length x.cM, .int .i64 y] W fun e w' => e = .returned (.bool (decide (y ∈ s.M))) ∧ w' = W) := hide (contains_any h x.cM y (by omega))
  have y1 := (Bg.of hb).c1
  generalize decide (y ∈ s.M) = bm at *
  clear hb h hn
  go_enter Tryz.func192, Tryz.ntmps192
  go_wp2_with (first
    | (go_at_call 82; refine (unhide HC).mono ?_; rintro e w9 ⟨rfl, hw9⟩; rw [hw9]; clear hw9))
  go_ret
  exact ⟨rfl, rfl⟩
set_option maxRecDepth 100000 in
set_option maxHeartbeats 1000000 in
theorem idxf_g {W : World} {a : Option Addr} {l : List Int} {b : Nat} {s : GP} {x : Px} (hb : W.heap[b]? = some (.cells (gc s x) 31)) (hm : Sl E3 W x.aM s.M) (hn : s.M.length ≤ 17592186044416) (h : Sl E3 W a l) (cap : Nat) (hl : l.length ≤ 17592186044416) : Calls Tryz.prog 143 #[.slice a l.length cap, .func (.func 192) #[] #[.pointer (some ⟨b, 0, none⟩)]] W fun e w' => ∃ i, e = .returned (.int .i64 i) ∧ (0 ≤ i ↔ (l.any fun v => !decide (v ∈ s.M)) = true) ∧ w' = W := by
  obtain ⟨g, off, hg, hR⟩ := h
  have HC : Hid (∀ (y : Int) (c : Bool), (!decide (y ∈ s.M)) = c → Calls Tryz.prog 192 #[.int .i64 y, .pointer (some ⟨b, 0, none⟩)] W fun e w' => e = .returned (.bool c) ∧ w' = W) := hide (fun y c hc => by rw [← hc]; exact nomem_g hb hm hn y)
  generalize hn2 : l.length = m at *
  have HN := hide hn2
  have HG := hide hg
  have HR := hide hR
  clear hn2 hg hR hb hm hn
  go_enter Tryz.func143, Tryz.ntmps143
  go_wp2_with fail
  go_loopw [8] (fun vk wr => ∃ (k : Nat), k ≤ m ∧ vk = .int .i64 k ∧ wr = W ∧ Hid ((l.any fun v => !decide (v ∈ s.M)) = ((l.drop k).any fun v => !decide (v ∈ s.M)))) (fun vk _ => m - (intOf vk).toNat)
  case atStart => exact ⟨0, Nat.zero_le _, rfl, rfl, hide rfl⟩
  case round =>
    obtain ⟨k, hk, rfl, rfl, HE⟩ := hrel
    by_cases hlt : k < m
    · have hkl : k < l.length := by rw [unhide HN]; exact hlt
      obtain rfl := (unhide HG) (by omega)
      have hkn : (k : Int) < m := by omega
      have r0 := E3_cell (unhide HR) k hkl
      have HD : Hid (((l.drop k).any fun v => !decide (v ∈ s.M)) = ((!decide (l[k] ∈ s.M)) || ((l.drop (k + 1)).any fun v => !decide (v ∈ s.M)))) := hide (by rw [List.drop_eq_getElem_cons hkl]; rfl)
      generalize l[k] = y at *
      have HC2 := hide ((unhide HC) y)
      cases hd : (!decide (y ∈ s.M)) with
      | true =>
        have HC3 := hide ((unhide HC2) true hd)
        have HF : Hid ((l.any fun v => !decide (v ∈ s.M)) = true) := hide (by rw [unhide HE, unhide HD, hd]; rfl)
        clear hd
        go_wp2_with (first
          | (go_at_call 192; refine (unhide HC3).mono ?_; rintro e w9 ⟨rfl, hw9⟩; rw [hw9]; clear hw9))
        go_ret
        exact ⟨_, rfl, ⟨fun _ => unhide HF, fun _ => by omega⟩, rfl⟩
      | false =>
        have HC3 := hide ((unhide HC2) false hd)
        have HF : Hid ((l.any fun v => !decide (v ∈ s.M)) = ((l.drop (k + 1)).any fun v => !decide (v ∈ s.M))) := hide (by rw [unhide HE, unhide HD, hd]; rfl)
        clear hd
        go_wp2_with (first
          | (go_at_call 192; refine (unhide HC3).mono ?_; rintro e w9 ⟨rfl, hw9⟩; rw [hw9]; clear hw9))
        go_roundw
        case rel => exact ⟨k + 1, by omega, by go_num, by trivial, HF⟩
        case measure => simp [intOf]; omega
    · obtain rfl : k = m := by omega
      have HF : Hid ((l.any fun v => !decide (v ∈ s.M)) = false) := hide (by rw [unhide HE, List.drop_of_length_le (by rw [unhide HN]; omega)]; rfl)
      go_wp2_with fail
      go_ret
      exact ⟨_, rfl, ⟨fun h => absurd h (by decide), fun h => by rw [unhide HF] at h; exact absurd h (by decide)⟩, rfl⟩
set_option maxRecDepth 100000 in
theorem contf_g {W : World} {a : Option Addr} {l : List Int} {b : Nat} {s : GP} {x : Px} (hb : W.heap[b]? = some (.cells (gc s x) 31)) (hm : Sl E3 W x.aM s.M) (hn : s.M.length ≤ 17592186044416) (h : Sl E3 W a l) (cap : Nat) (hl : l.length ≤ 17592186044416) : Calls Tryz.prog 191 #[.slice a l.length cap, .func (.func 192) #[] #[.pointer (some ⟨b, 0, none⟩)]] W fun e w' => e = .returned (.bool (l.any fun v => !decide (v ∈ s.M))) ∧ w' = W := by
  have HC := hide (idxf_g hb hm hn h cap hl)
  clear hb hm hn h hl
  generalize (l.any fun v => !decide (v ∈ s.M)) = bm at *
  generalize l.length = n at *
  cases bm with
  | true =>
    go_enter Tryz.func191, Tryz.ntmps191
    go_wp2_with (first
      | (go_at_call 143; refine (unhide HC).mono ?_; rintro e w9 ⟨i, rfl, hi, hw9⟩; rw [hw9]; clear hw9; have hi2 : 0 ≤ i := hi.2 rfl; clear hi))
    go_ret
    exact ⟨rfl, rfl⟩
  | false =>
    go_enter Tryz.func191, Tryz.ntmps191
    go_wp2_with (first
      | (go_at_call 143; refine (unhide HC).mono ?_; rintro e w9 ⟨i, rfl, hi, hw9⟩; rw [hw9]; clear hw9; have hi2 : ¬ (0 ≤ i) := fun h => absurd (hi.1 h) (by decide); clear hi))
    go_ret
    exact ⟨by have e : decide (0 ≤ i) = false := decide_eq_false (by omega); rw [← e]; rfl, rfl⟩
set_option maxRecDepth 100000 in
theorem seated_g {W : World} {s : GP} {x : Px} (h : Sl E3 W x.aM s.M) (hn : s.M.length ≤ 17592186044416) : Calls Tryz.prog 128 #[.agg (gc s x)] W fun e w' => e = .returned (.bool (decide (s.id ∈ s.M))) ∧ Bel W w' := by
  have HC : Hid (∀ w1, Bel W w1 → Calls Tryz.prog 82 #[.slice x.aM s.M.length x.cM, .int .i64 s.id] w1 fun e w' => e = .returned (.bool (decide (s.id ∈ s.M))) ∧ w' = w1) := hide (fun w1 hb => contains_any (h.bel hb) x.cM s.id (by omega))
  clear h hn
  generalize decide (s.id ∈ s.M) = bm at *
  go_enter Tryz.func128, Tryz.ntmps128
  go_wp2_with (first
    | (refine bx_box rfl 31 _ rfl (gc s x) rfl ?_; intro b w0 hr0 hs0 hb0; obtain ⟨y0, y1, y2, y3, y4, y5, y6, y7, y8, y9, y10, y11, y12, y13, y14, y15, y16, y17⟩ := Bg.of hr0; have HB0 := hide hb0; clear hr0 hs0 hb0)
    | (go_at_call 82; refine ((unhide HC) _ (unhide HB0)).mono ?_; rintro e w9 ⟨rfl, hw9⟩; rw [hw9]; clear hw9))
  go_ret
  exact ⟨rfl, unhide HB0⟩
end Go.Proofs.YthekbhliokcpcaaGreat
