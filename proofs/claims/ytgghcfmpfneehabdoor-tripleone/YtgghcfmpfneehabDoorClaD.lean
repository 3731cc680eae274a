/- Where a row of schemas is wrong first: wrongSchema. -/
import Derived.Test.YtgghcfmpfneehabDoorClaC
import Derived.Test.YtgghcfmpfneehabDoorClaG
import Derived.BigQuiet
namespace Go.Proofs.YtgghcfmpfneehabDoor
open Go.RowKit Go.Sort
/-- The fault of a schema. -/
def eSm (S : Sm) : Int := eS S.1 S.2.1 S.2.2.2.2.1 S.2.2.2.2.2.1 S.2.2.2.2.2.2.1
/-- A row of schemas is wrong at a place. -/
def badS (L : List Sm) (i : Nat) : Prop := i = 256 ∨ (∃ h : i < L.length, eSm L[i] ≠ 0) ∨ ∃ k, k + 1 = i ∧ ∃ (h : k < L.length) (h' : i < L.length), Op.bytesLess L[k].1.toList L[i].1.toList = false
def wsR (L : List Sm) (at' : Nat) (f : Bool) : Prop := (f = true ∧ at' < L.length ∧ badS L at' ∧ ∀ j, j < at' → ¬ badS L j) ∨ (f = false ∧ at' = 0 ∧ ∀ j, j < L.length → ¬ badS L j)
set_option maxHeartbeats 1000000 in
set_option maxRecDepth 100000 in
theorem ws_any (g off cap : Nat) (L : List Sm) (w : World) (hl : L.length ≤ 1000000) (hrow : Row8 w g off L) (hg : g < w.heap.size) :
    Calls Tryd.prog 15 #[.slice (some ⟨g, off, none⟩) L.length cap] w fun e w' => ∃ (i : Nat) (f : Bool), e = .returned (.tuple #[.int .i64 i, .bool f]) ∧ Bel w w' ∧ wsR L i f := by
  obtain ⟨n, hn⟩ : ∃ n, L.length = n := ⟨_, rfl⟩
  rw [hn] at hl ⊢
  have Hn := hide hn
  have HR := hide hrow
  clear hn hrow
  go_enter Tryd.func15, Tryd.ntmps15
  go_wp2_with fail
  go_loopw [4, 5, 8] (fun _ _ vi W => ∃ i : Nat, i ≤ n ∧ vi = .int .i64 i ∧ Bel w W ∧ Hid (∀ j, j < i → ¬ badS L j)) (fun _ _ vi _ => n - (intOf vi).toNat)
  case atStart => exact ⟨0, Nat.zero_le _, rfl, Bel.refl _, hide fun j hj => by omega⟩
  case round =>
    obtain ⟨i, hin, rfl, hb, HI⟩ := hrel
    have HB := hide hb
    clear hb
    by_cases hlt : i < n
    · have hil : i < L.length := by have := Hn.out; omega
      obtain ⟨p, t, l, x, tm, od, rv, ct, he⟩ : ∃ p t l x tm od rv ct, L[i] = ((p, t, l, x, tm, od, rv, ct) : Sm) := ⟨_, _, _, _, _, _, _, _, rfl⟩
      obtain ⟨c0, c1, c2, c3, c4, c5, c6, c7⟩ := (HR.out.next HB.out).cells hil he
      have hS := hide (fun W => schema_gr p t l x tm od rv ct W)
      unfold sc at hS
      have hE : eSm L[i] = eS p t tm od rv := by rw [he]; rfl
      have Hp : Hid (L[i].1 = p) := hide (by rw [he])
      clear he
      rw [← hE] at hS
      clear hE
      go_wp2_with fail
      have hfol : Tryd.prog.follows .mixedOrders = true := by kernel_rfl
      have h8 := C8.new p t l x tm od rv ct wr
      have hb1 : Bel wr (wr.alloc (.cells #[.string p, .int .u8 t, .bool l, .bool x, .bool tm, .bool od, .bool rv, .bool ct] 24)) := (Bel.refl _).alloc _
      have hB : wr.heap.size < (wr.alloc (.cells #[.string p, .int .u8 t, .bool l, .bool x, .bool tm, .bool od, .bool rv, .bool ct] 24)).heap.size := by simp
      have hgl : g < wr.heap.size := Nat.lt_of_lt_of_le hg HB.out.size
      clear c0 c1 c2 c3 c4 c5 c6 c7
      generalize wr.alloc (.cells #[.string p, .int .u8 t, .bool l, .bool x, .bool tm, .bool od, .bool rv, .bool ct] 24) = W1 at h8 hb1 hB ⊢
      have HB1 := hide (HB.out.trans hb1)
      have hg1 : g < W1.heap.size := Nat.lt_of_lt_of_le hgl hb1.size
      clear hb1 hgl
      generalize wr.heap.size = B at h8 hB ⊢
      obtain ⟨d0, d1, d2, d3, d4, d5, d6, d7⟩ := h8
      have g0 := fun n os => cell_grown hB d0 n os
      have g1 := fun n os => cell_grown hB d1 n os
      have g2 := fun n os => cell_grown hB d2 n os
      have g3 := fun n os => cell_grown hB d3 n os
      have g4 := fun n os => cell_grown hB d4 n os
      have g5 := fun n os => cell_grown hB d5 n os
      have g6 := fun n os => cell_grown hB d6 n os
      have g7 := fun n os => cell_grown hB d7 n os
      clear d0 d1 d2 d3 d4 d5 d6 d7
      by_cases h256 : i = 256
      · subst h256
        refine wp_region_quiet_grown hfol (by kernel_rfl) ?_
        repeat (go_big_quiet_step (first | (go_at_call 9; refine Calls.grown_of (hS.out _))))
        refine wpQuiet_nil ?_
        intro _ hw'
        obtain ⟨⟨nq, osq⟩, hw''⟩ := hw'
        subst hw''
        clear g0 g1 g2 g3 g4 g5 g6 g7
        have HB2 := hide (HB1.out.trans (Gr.bel ⟨nq, osq, rfl⟩))
        generalize grow (W1.drewN nq) osq = W2 at HB2 ⊢
        go_wp2_with fail
        go_ret2
        exact ⟨256, true, rfl, HB2.out, Or.inl ⟨rfl, hil, Or.inl rfl, HI.out⟩⟩
      · have h256' : ((i : Int) == 256) = false := by rw [beq_eq_false_iff_ne]; omega
        obtain ⟨E, hE⟩ : ∃ E, eSm L[i] = E := ⟨_, rfl⟩
        rw [hE] at hS
        have HE := hide hE
        have H256 := hide h256
        clear hE h256
        by_cases hE0 : E = 0
        · subst hE0
          by_cases hi0 : i = 0
          · subst hi0
            refine wp_region_quiet_grown hfol (by kernel_rfl) ?_
            repeat (go_big_quiet_step (first | (go_at_call 9; refine Calls.grown_of (hS.out _))))
            refine wpQuiet_nil ?_
            intro _ hw'
            obtain ⟨⟨nq, osq⟩, hw''⟩ := hw'
            subst hw''
            clear g0 g1 g2 g3 g4 g5 g6 g7
            have HB2 := hide (HB1.out.trans (Gr.bel ⟨nq, osq, rfl⟩))
            generalize grow (W1.drewN nq) osq = W2 at HB2 ⊢
            go_wp2_with fail
            refine ⟨⟨1, hlt, by go_num, HB2.out, hide fun j hj => ?_⟩, by simp [intOf]; omega⟩
            obtain rfl : j = 0 := by omega
            rintro (h | ⟨_, h⟩ | ⟨k, hk, _⟩)
            · omega
            · exact h HE.out
            · omega
          · obtain ⟨m, hm⟩ : ∃ m, m + 1 = i := ⟨i - 1, by omega⟩
            have hml : m < L.length := by omega
            have hmn : m < n := by omega
            have im : ((i : Int) - 1) = (m : Int) := by omega
            have ipos : 0 < i := by omega
            have Hm := hide hm
            clear hm hi0
            obtain ⟨p', t', l', x', tm', od', rv', ct', he'⟩ : ∃ p t l x tm od rv ct, L[m] = ((p, t, l, x, tm, od, rv, ct) : Sm) := ⟨_, _, _, _, _, _, _, _, rfl⟩
            have e0 := ((HR.out.next HB1.out).cells hml he').1
            have q0 := fun n os => cell_grown hg1 e0 n os
            have Hp' : Hid (L[m].1 = p') := hide (by rw [he'])
            clear he' e0
            obtain ⟨bl, hbl⟩ : ∃ bl, Op.bytesLess p'.toList p.toList = bl := ⟨_, rfl⟩
            have HBL := hide hbl
            cases bl
            · refine wp_region_quiet_grown hfol (by kernel_rfl) ?_
              repeat (go_big_quiet_step (first | (go_at_call 9; refine Calls.grown_of (hS.out _))))
              refine wpQuiet_nil ?_
              intro _ hw'
              obtain ⟨⟨nq, osq⟩, hw''⟩ := hw'
              subst hw''
              clear g0 g1 g2 g3 g4 g5 g6 g7 q0
              have HB2 := hide (HB1.out.trans (Gr.bel ⟨nq, osq, rfl⟩))
              generalize grow (W1.drewN nq) osq = W2 at HB2 ⊢
              go_wp2_with fail
              go_ret2
              exact ⟨i, true, rfl, HB2.out, Or.inl ⟨rfl, hil, Or.inr (Or.inr ⟨m, Hm.out, hml, hil, by rw [Hp'.out, Hp.out]; exact HBL.out⟩), HI.out⟩⟩
            · refine wp_region_quiet_grown hfol (by kernel_rfl) ?_
              repeat (go_big_quiet_step (first | (go_at_call 9; refine Calls.grown_of (hS.out _))))
              refine wpQuiet_nil ?_
              intro _ hw'
              obtain ⟨⟨nq, osq⟩, hw''⟩ := hw'
              subst hw''
              clear g0 g1 g2 g3 g4 g5 g6 g7 q0
              have HB2 := hide (HB1.out.trans (Gr.bel ⟨nq, osq, rfl⟩))
              generalize grow (W1.drewN nq) osq = W2 at HB2 ⊢
              go_wp2_with fail
              refine ⟨⟨i + 1, by omega, by go_num, HB2.out, hide fun j hj => ?_⟩, by simp [intOf]; omega⟩
              by_cases hji : j = i
              · subst hji
                rintro (h | ⟨_, h⟩ | ⟨k, hk, h1, h2, h⟩)
                · exact H256.out h
                · exact h HE.out
                · obtain rfl : k = m := by have := Hm.out; omega
                  rw [Hp'.out, Hp.out, HBL.out] at h
                  cases h
              · exact HI.out j (by omega)
        · have hE' : (E != 0) = true := by rw [bne_iff_ne]; exact hE0
          refine wp_region_quiet_grown hfol (by kernel_rfl) ?_
          repeat (go_big_quiet_step (first | (go_at_call 9; refine Calls.grown_of (hS.out _))))
          refine wpQuiet_nil ?_
          intro _ hw'
          obtain ⟨⟨nq, osq⟩, hw''⟩ := hw'
          subst hw''
          clear g0 g1 g2 g3 g4 g5 g6 g7
          have HB2 := hide (HB1.out.trans (Gr.bel ⟨nq, osq, rfl⟩))
          generalize grow (W1.drewN nq) osq = W2 at HB2 ⊢
          go_wp2_with fail
          go_ret2
          exact ⟨i, true, rfl, HB2.out, Or.inl ⟨rfl, hil, Or.inr (Or.inl ⟨hil, by rw [HE.out]; exact hE0⟩), HI.out⟩⟩
    · go_wp2_with fail
      go_ret2
      refine ⟨0, false, rfl, HB.out, Or.inr ⟨rfl, rfl, fun j hj => HI.out j (by have := Hn.out; omega)⟩⟩
end Go.Proofs.YtgghcfmpfneehabDoor
