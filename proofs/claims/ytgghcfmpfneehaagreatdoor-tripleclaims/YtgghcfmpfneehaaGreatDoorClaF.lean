/- What Claims answers, for any row of schemas and any row of writes. -/
import Derived.Test.YtgghcfmpfneehaaGreatDoorMgB
import Derived.Test.YtgghcfmpfneehaaGreatDoorClaB
namespace Go.Proofs.YtgghcfmpfneehaaGreatDoor
open Go.RowKit Go.Sort Go.Maps
/-- A write's cells. -/
def cw8 (X : Wm) : List Value := [.bool X.1, .int .u64 (X.2.1 : Int), .string X.2.2.1, .int .u8 X.2.2.2.1, .bool X.2.2.2.2.1, .int .i64 X.2.2.2.2.2.1, .string X.2.2.2.2.2.2.1, .int .u64 X.2.2.2.2.2.2.2]
/-- A row of writes as it is read. -/
def RowW (W : World) (g off : Nat) (X : List Wm) : Prop := ∀ j (h : j < X.length) c v, (cw8 X[j])[c]? = some v → W.cell? ⟨g, off + j * 8 + c, none⟩ = some v
theorem RowW.next {W W' : World} {g off : Nat} {X : List Wm} (h : RowW W g off X) (hb : Bel W W') : RowW W' g off X := fun j hj c v hv => hb.cell (h j hj c v hv)
theorem RowW.cells {W : World} {g off : Nat} {X : List Wm} (h : RowW W g off X) {j : Nat} (hj : j < X.length) {d : Bool} {u : Nat} {q : ByteArray} {k : Int} {b : Bool} {n : Int} {s : ByteArray} {v : Int} (e : X[j] = (d, u, q, k, b, n, s, v)) :
    W.cell? ⟨g, off + j * 8, none⟩ = some (.bool d) ∧ W.cell? ⟨g, off + j * 8 + 1, none⟩ = some (.int .u64 u) ∧ W.cell? ⟨g, off + j * 8 + 2, none⟩ = some (.string q) ∧ W.cell? ⟨g, off + j * 8 + 3, none⟩ = some (.int .u8 k) ∧ W.cell? ⟨g, off + j * 8 + 4, none⟩ = some (.bool b) ∧ W.cell? ⟨g, off + j * 8 + 5, none⟩ = some (.int .i64 n) ∧ W.cell? ⟨g, off + j * 8 + 6, none⟩ = some (.string s) ∧ W.cell? ⟨g, off + j * 8 + 7, none⟩ = some (.int .u64 v) :=
  ⟨h j hj 0 _ (by rw [e]; rfl), h j hj 1 _ (by rw [e]; rfl), h j hj 2 _ (by rw [e]; rfl), h j hj 3 _ (by rw [e]; rfl), h j hj 4 _ (by rw [e]; rfl), h j hj 5 _ (by rw [e]; rfl), h j hj 6 _ (by rw [e]; rfl), h j hj 7 _ (by rw [e]; rfl)⟩
/-- The numbers of a write are such as its types hold. -/
def inW (X : Wm) : Prop := X.2.1 < 2 ^ 64 ∧ inR X.2.2.2.2.2.1 X.2.2.2.2.2.2.2
def clmW (L : List Sm) (X : Wm) (x : List UInt8) (e : Int) : Prop := clmR L X.2.1 X.2.2.1 X.2.2.2.1 X.2.2.2.2.1 X.2.2.2.2.2.1 X.2.2.2.2.2.2.1 X.2.2.2.2.2.2.2 x e
theorem clmR_len {L : List Sm} {u : Nat} {q : ByteArray} {k : Int} {b : Bool} {n : Int} {s : ByteArray} {v : Int} {x : List UInt8} {e : Int} (hu : u < 2 ^ 64) (hr : inR n v) (h : clmR L u q k b n s v x e) : x.length ≤ 100000 := by
  rcases h with ⟨_, rfl, _⟩ | ⟨h0, i, f, _, ⟨_, rfl, _⟩ | ⟨_, hi, ⟨_, rfl, _⟩ | ⟨_, rfl, _⟩⟩⟩
  · simp
  · simp
  · simp
  · have hps := name_short (eT_zero h0).2.1
    have h1 := key_small q (by omega)
    have h2 := num_len u hu
    have h3 := byt_len (eT_zero h0).2.2 hr
    unfold clmS
    split <;> simp <;> omega
theorem own_bel {W W' : World} {b n : Nat} {D : DataW Unit} (h : W.ownsMap Tryz.prog 9 unitElem b n D) (hb : Bel W W') : W'.ownsMap Tryz.prog 9 unitElem b n D := by
  obtain ⟨es, clock, h1, F, hs, hD⟩ := h
  exact ⟨es, clock, hb.row h1, F, hs, hD⟩
/-- What Claims answers. -/
def clsR (L : List Sm) (X : List Wm) (w : World) (e : Ending) (w' : World) : Prop := ∃ (r : Value) (at' : Nat) (er : Int), e = .returned (.tuple #[r, .int .i64 at', .int .i64 er]) ∧ Bel w w' ∧
  ((wsR L at' true ∧ r = .slice none 0 0 ∧ er = 43) ∨
   (wsR L 0 false ∧ 256 < X.length ∧ r = .slice none 0 0 ∧ at' = 256 ∧ er = 4) ∨
   (wsR L 0 false ∧ X.length ≤ 256 ∧ r = .slice none 0 0 ∧ er ≠ 0 ∧ (∃ h : at' < X.length, ∃ t, clmW L X[at'] t er) ∧ ∀ j (h : j < X.length), j < at' → ∃ t, clmW L X[j] t 0) ∨
   (wsR L 0 false ∧ X.length ≤ 256 ∧ at' = X.length ∧ er = 0 ∧ ∃ ks : List (List UInt8), ks.length = X.length ∧ (∀ j (h : j < X.length) (h' : j < ks.length), clmW L X[j] ks[j] 0) ∧
      ∃ (g cap : Nat) (zs : List (List UInt8)), r = .slice (some ⟨g, 0, none⟩) zs.length cap ∧ zs.Pairwise (fun x y => x < y) ∧ (∀ x, x ∈ zs ↔ x ∈ ks) ∧ w'.ownsRow w.heap.size 9 1 r zs.length (zs.map encStr)))
set_option maxHeartbeats 1000000 in
set_option maxRecDepth 100000 in
theorem claims_any (a a2 : Option Addr) (g off cap : Nat) (L : List Sm) (ha : L.length ≠ 0 → a = some ⟨g, off, none⟩) (g2 off2 cap2 : Nat) (X : List Wm) (ha2 : X.length ≠ 0 → a2 = some ⟨g2, off2, none⟩) (w : World) (hl : L.length ≤ 1000000) (hrow : Row8 w g off L) (hg : L.length ≠ 0 → g < w.heap.size) (hx : X.length ≤ 1000000) (hrow2 : RowW w g2 off2 X) (hin : ∀ x ∈ X, inW x) :
    Calls Tryz.prog 11 #[.slice a L.length cap, .slice a2 X.length cap2] w fun e w' => clsR L X w e w' := by
  have hmm := @run_makeMap Tryz.prog
  have hW := hide (ws_any a g off cap L ha w hl hrow hg)
  have hC := hide (fun d u hu q k b n s v hr W (h : Row8 W g off L) => claim_any a g off cap L ha d u hu q k b n s v hr W hl h)
  unfold wr at hC
  obtain ⟨ln, hln⟩ : ∃ ln, L.length = ln := ⟨_, rfl⟩
  obtain ⟨n, hn⟩ : ∃ n, X.length = n := ⟨_, rfl⟩
  rw [hln] at hl hC hW ⊢
  rw [hn] at hx ha2 ⊢
  have HA2 := hide ha2
  clear ha ha2 hg
  have Hln := hide hln
  have Hn := hide hn
  have HR := hide hrow
  have HR2 := hide hrow2
  have HIN := hide hin
  clear hln hn hrow hrow2 hin
  go_enter Tryz.func11, Tryz.ntmps11
  go_wp2_with fail
  go_at_call 41
  refine hW.out.mono ?_
  rintro e w1 ⟨i, f, rfl, hb1, HWS⟩
  have HB1 := hide hb1
  have HWS' := hide HWS
  clear hW hb1 HWS
  cases f
  · have HW0 : Hid (wsR L 0 false) := by
      rcases HWS'.out with ⟨h, _⟩ | ⟨_, rfl, h⟩
      · cases h
      · exact hide (Or.inr ⟨rfl, rfl, h⟩)
    by_cases h256 : 256 < n
    · go_wp2_with fail
      go_ret3
      exact ⟨_, 256, 4, rfl, HB1.out, Or.inr (Or.inl ⟨HW0.out, by rw [Hn.out]; exact h256, rfl, rfl, rfl⟩)⟩
    · go_wp2_with fail
      go_loopw [10, 11, 12, 13, 27] (fun _ _ _ _ vi W => ∃ k : Nat, k ≤ n ∧ vi = .int .i64 k ∧ Hid (Bel w W ∧ ∃ ks : List (List UInt8), ks.length = k ∧ (∀ j (h : j < X.length) (h' : j < ks.length), clmW L X[j] ks[j] 0) ∧ W.ownsMap Tryz.prog 9 unitElem w1.heap.size k (SnU ks))) (fun _ _ _ _ vi _ => n - (intOf vi).toNat)
      case atStart => exact ⟨0, Nat.zero_le _, rfl, hide ⟨HB1.out.alloc _, [], rfl, fun j _ h' => by simp at h', by rw [SnU_nil]; exact World.ownsMap_made _ _ _ _⟩⟩
      case round =>
        obtain ⟨j, hj, rfl, HO⟩ := hrel
        obtain ⟨hbw, ks, hks, hcl, hown⟩ := HO.out
        have HBW := hide hbw
        have HKS := hide hks
        have HCL := hide hcl
        have HOWN := hide hown
        clear hbw hks hcl hown HO
        by_cases hlt : j < n
        · have hjl : j < X.length := by rw [Hn.out]; exact hlt
          have ea := HA2.out (by omega)
          subst ea
          obtain ⟨d, u, q, k, b, m, s, v, he⟩ : ∃ d u q k b m s v, X[j] = ((d, u, q, k, b, m, s, v) : Wm) := ⟨_, _, _, _, _, _, _, _, rfl⟩
          obtain ⟨c0, c1, c2, c3, c4, c5, c6, c7⟩ := (HR2.out.next HBW.out).cells hjl he
          have hiw := HIN.out X[j] (List.getElem_mem hjl)
          rw [he] at hiw
          have hC' := hide (fun W h => hC.out d u hiw.1 q k b m s v hiw.2 W h)
          have HIW := hide hiw
          have HX : Hid (∀ t e, clmW L X[j] t e ↔ clmR L u q k b m s v t e) := hide (fun t e => by rw [he]; exact Iff.rfl)
          clear he hiw hC
          go_wp2_with fail
          have hba : Bel wr (wr.alloc (.cells #[.bool d, .int .u64 u, .string q, .int .u8 k, .bool b, .int .i64 m, .string s, .int .u64 v] 29)) := (Bel.refl _).alloc _
          go_at_call 42
          refine (hC'.out _ ((HR.out.next HBW.out).next hba)).mono ?_
          rintro e w2 ⟨x, er, rfl, hb2, hcr⟩
          have HCR := hide ((HX.out x er).2 hcr)
          have hxl := clmR_len HIW.out.1 HIW.out.2 hcr
          have HB2 := hide (hba.trans hb2)
          clear hC' hcr hb2 hba c0 c1 c2 c3 c4 c5 c6 c7
          by_cases her : er = 0
          · subst her
            have hkey := key_ok (x := x) (by unfold maxLen; omega)
            have hown2 := own_bel HOWN.out HB2.out
            go_wp2_with (first | (at_mapUpdate; refine wpList_mapUpdate_own _ rfl _ _ _ 84 rfl 9 86 law9 Tryz.underlying84 unitElem w1.heap.size j _ rfl hown2 (by unfold maxLen; omega) _ _ _ rfl rfl hkey _ [] unitElem_mk ?_; intro w3 hown3 hgrow3) | go_in)
            refine ⟨⟨j + 1, by omega, by go_num, hide ⟨?_, ks ++ [x], by simp [HKS.out], fun i hi hi' => ?_, ?_⟩⟩, by simp [intOf]; omega⟩
            · exact (HBW.out.trans HB2.out).grown hgrow3 (HBW.out.trans HB2.out).size (fun i hi => by cases hi; exact HB1.out.size)
            · by_cases hij : i = j
              · subst hij
                rw [List.getElem_append_right (by rw [HKS.out]; exact Nat.le_refl _)]
                simp only [HKS.out, Nat.sub_self, List.getElem_cons_zero]
                exact HCR.out
              · have hik : i < ks.length := by have := HKS.out; simp at hi'; omega
                rw [List.getElem_append_left hik]
                exact HCL.out i hi hik
            · rw [SnU_snoc]
              exact hown3
          · have her' : (er != 0) = true := by rw [bne_iff_ne]; exact her
            go_wp2_with fail
            go_ret3
            exact ⟨_, j, er, rfl, HBW.out.trans HB2.out, Or.inr (Or.inr (Or.inl ⟨HW0.out, by rw [Hn.out]; omega, rfl, her, ⟨hjl, x, HCR.out⟩, fun i hi hij => ⟨ks[i]'(by rw [HKS.out]; exact hij), HCL.out i hi _⟩⟩))⟩
        · obtain rfl : j = n := by omega
          have hsz : Maps.size (SnU ks) ≤ j := HOWN.out.size_le
          have hR := hide (rising_map w1.heap.size j (SnU ks) wr HOWN.out (by unfold maxLen; omega) (by omega))
          go_wp2_with (first | (go_at_call 43; refine hR.out.mono ?_; rintro e w2 ⟨g3, cap3, zs, rfl, hp, hm, hrw, hbl⟩) | go_in)
          go_ret3
          have hbl' : Bel wr w2 := hbl
          refine ⟨_, j, 0, rfl, HBW.out.trans hbl', Or.inr (Or.inr (Or.inr ⟨HW0.out, by rw [Hn.out]; omega, Hn.out.symm, rfl, ks, by rw [HKS.out, Hn.out], HCL.out, g3, cap3, zs, rfl, hp, fun x => ?_, hrw.1, hrw.2.elim Or.inl (fun ⟨g, c, cur, a1, a2, a3⟩ => Or.inr ⟨g, c, cur, a1, Nat.le_trans HBW.out.size a2, a3⟩)⟩))⟩
          rw [hm, SnU_has, decide_eq_true_eq]
  · go_wp2_with fail
    go_ret3
    exact ⟨_, i, 43, rfl, HB1.out, Or.inl ⟨HWS'.out, rfl, rfl⟩⟩
end Go.Proofs.YtgghcfmpfneehaaGreatDoor
