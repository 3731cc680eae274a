/- What the document's Sort returns: the values, rising, each once; for every row of at most 200 values that may be. -/
import Derived.Test.YtomnajoflcjnfaaDoorOrdH
namespace Go.Proofs.YtomnajoflcjnfaaDoor
open Go.RowKit Go.Sort
/-- The five cells of a value. -/
def five (W : World) (g o : Nat) (k : Int) (b : Bool) (n : Int) (s : ByteArray) (u : Int) : Prop :=
  W.cell? ⟨g, o, none⟩ = some (.int .u8 k) ∧ W.cell? ⟨g, o + 1, none⟩ = some (.bool b) ∧ W.cell? ⟨g, o + 2, none⟩ = some (.int .i64 n) ∧ W.cell? ⟨g, o + 3, none⟩ = some (.string s) ∧ W.cell? ⟨g, o + 4, none⟩ = some (.int .u64 u)
theorem five_of {W : World} {g off : Nat} {l : List V} (h : ∀ t u, (cel enc5 5 l)[t]? = some u → W.cell? ⟨g, off + t, none⟩ = some u) {j : Nat} (hj : j < l.length) {k : Int} {b : Bool} {n : Int} {s : ByteArray} {u : Int} (he : l[j] = (k, b, n, s, u)) : five W g (off + j * 5) k b n s u := by
  have e : ∀ c v, c < 5 → (enc5 l[j])[c]? = some v → W.cell? ⟨g, off + j * 5 + c, none⟩ = some v := fun c v hc hv => by
    rw [Nat.add_assoc]
    exact h _ _ (by rw [cel_at l hj hc]; exact hv)
  rw [he] at e
  exact ⟨e 0 _ (by decide) rfl, e 1 _ (by decide) rfl, e 2 _ (by decide) rfl, e 3 _ (by decide) rfl, e 4 _ (by decide) rfl⟩
theorem five.next {W W' : World} {g o : Nat} {k : Int} {b : Bool} {n : Int} {s : ByteArray} {u : Int} (h : five W g o k b n s u) (hb : Bel W W') : five W' g o k b n s u := ⟨hb.cell h.1, hb.cell h.2.1, hb.cell h.2.2.1, hb.cell h.2.2.2.1, hb.cell h.2.2.2.2⟩
def dsR (l : List V) (w : World) (e : Ending) (w' : World) : Prop := ∃ v q, e = .returned v ∧ RV w' v q ∧ Bel w w' ∧ risV q ∧ ∀ x, x ∈ q ↔ x ∈ l
set_option maxHeartbeats 16000000 in
set_option maxRecDepth 100000 in
theorem dsort_any (l : List V) (v : Value) (w : World) (hr : RV w v l) (hl : l.length ≤ 200) (hall : ∀ x ∈ l, mayx x) : Calls Tryd.prog 22 #[v] w fun e w' => dsR l w e w' := by
  have mixed : Tryd.prog.follows .mixedOrders = true := by kernel_rfl
  obtain ⟨a, cap, rfl, hc, hne⟩ := hr
  have HNE := hide hne
  have HALL := hide hall
  clear hne hall
  go_enter Tryd.func22, Tryd.ntmps22
  go_wp2_with fail
  go_loopw [3, 4] (fun vo i W => ∃ n : Nat, ∃ out, n ≤ l.length ∧ i = .int .i64 n ∧ QO w W vo out ∧ risV out ∧ (∀ x, x ∈ out ↔ x ∈ l.take n) ∧ out.length ≤ n) (fun _ i _ => l.length - (intOf i).toNat)
  case atStart => exact ⟨0, [], Nat.zero_le _, rfl, QO.nil w, List.Pairwise.nil, by simp, Nat.le_refl _⟩
  case round =>
    obtain ⟨n, out, hn, rfl, hO, hris, hmem, hlen⟩ := hrel
    have HO := hide hO
    have HRS := hide hris
    have HMEM := hide hmem
    obtain ⟨ao, co, hvo, hco, hout⟩ := own_rv hO.own
    subst hvo
    have HOUT := hide hout
    clear hO hris hmem hout
    by_cases hlt : n < l.length
    · obtain ⟨g, off, rfl, hgl, hcell⟩ := HNE.out (fun e => by rw [e] at hlt; simp at hlt)
      obtain ⟨kx, bx, nx, sx, ux, hx⟩ : ∃ kx bx nx sx ux, l[n] = (kx, bx, nx, sx, ux) := ⟨_, _, _, _, _, rfl⟩
      have HX := hide (fun (W : World) (hb : Bel w W) => (five_of hcell hlt hx).next hb)
      have HMX := hide (show mayx (kx, bx, nx, sx, ux) by rw [← hx]; exact HALL.out _ (List.getElem_mem hlt))
      have HXL := hide hx
      clear hx hcell
      go_wp2_with fail
      go_loopw [5] (fun kv W => ∃ k : Nat, k ≤ out.length ∧ kv = .int .i64 k ∧ QO w W (.slice ao out.length co) out ∧ ∀ j (hj : j < out.length), k ≤ j → vlt (kx, bx, nx, sx, ux) out[j]) (fun kv _ => (intOf kv).toNat)
      case atStart => exact ⟨out.length, Nat.le_refl _, rfl, HO.out, fun j hj h => absurd hj (by omega)⟩
      case round =>
        clear HO
        obtain ⟨k, hk, rfl, hO, hgt⟩ := hrel
        have HO := hide hO
        have HGT := hide hgt
        obtain ⟨d0, d1, d2, d3, d4⟩ := HX.out _ hO.bel
        have HF := hide (fun n' os' => HX.out _ (hO.bel.grow n' os'))
        have f0 := fun n' os' => (HF.out n' os').1
        have f1 := fun n' os' => (HF.out n' os').2.1
        have f2 := fun n' os' => (HF.out n' os').2.2.1
        have f3 := fun n' os' => (HF.out n' os').2.2.2.1
        have f4 := fun n' os' => (HF.out n' os').2.2.2.2
        clear hgt
        by_cases hk0 : k = 0
        · have z0 : (k : Int) ≤ 0 := by omega
          have z1 : ¬ 0 < k := by omega
          have HLO := hide (show ∀ j (hj : j < out.length), j < k → vlt out[j] (kx, bx, nx, sx, ux) from fun j hj h => by omega)
          clear hO hk0
          go_wp2_with fail
          go_quiet (fail)
          go_wp2_with fail
          go_quiet (fail)
          go_wp2_with (at_builtin; refine qo_push (HO.out.drewN _) (by omega) rfl _ _ rfl rfl rfl ?_; intro g2 co2 w1 hO1; have HO1 := hide hO1; clear hO1)
          have eL : IntKind.i64.wrap ((out.length : Int) + 1 - 1) = (out.length : Int) := by rw [IntKind.wrap_i64]; omega
          go_wp2_with fail
          go_loopw [6] (fun jv W => ∃ j : Nat, k ≤ j ∧ j ≤ out.length ∧ jv = .int .i64 j ∧ QO2 w W g2 (out.length + 1) co2 (shv out j)) (fun jv _ => (intOf jv).toNat)
          case atStart => exact ⟨out.length, hk, Nat.le_refl _, rfl, HO1.out⟩
          case round =>
            clear HO1 d0 d1 d2 d3 d4 f0 f1 f2 f3 f4
            obtain ⟨j, hj1, hj2, rfl, hO2⟩ := hrel
            have HO2 := hide hO2
            have d6 := hO2.le
            by_cases hjk : k < j
            · obtain ⟨j', hj'⟩ : ∃ j', j = j' + 1 := ⟨j - 1, by omega⟩
              have hjl : j' < out.length := by omega
              obtain ⟨ka, ba, na, sa, ua, hya⟩ : ∃ ka ba na sa ua, out[j'] = (ka, ba, na, sa, ua) := ⟨_, _, _, _, _, rfl⟩
              have hat : (shv out j)[j']? = some (ka, ba, na, sa, ua) := by rw [hj', shv_at hjl, hya]
              have m0 : wr.cell? ⟨g2, j' * 5, none⟩ = some (.int .u8 ka) := hO2.cell (c := 0) (by omega) hat (by decide) rfl
              have m1 : wr.cell? ⟨g2, j' * 5 + 1, none⟩ = some (.bool ba) := hO2.cell (c := 1) (by omega) hat (by decide) rfl
              have m2 : wr.cell? ⟨g2, j' * 5 + 2, none⟩ = some (.int .i64 na) := hO2.cell (c := 2) (by omega) hat (by decide) rfl
              have m3 : wr.cell? ⟨g2, j' * 5 + 3, none⟩ = some (.string sa) := hO2.cell (c := 3) (by omega) hat (by decide) rfl
              have m4 : wr.cell? ⟨g2, j' * 5 + 4, none⟩ = some (.int .u64 ua) := hO2.cell (c := 4) (by omega) hat (by decide) rfl
              have HS := hide (QO2.put hO2 j (by omega) (ka, ba, na, sa, ua) (shv out j') (by rw [hj', ← hya]; exact shv_step hjl))
              have HTH := hide (fun c hc => hO2.there (show j < out.length + 1 by omega) c hc)
              have HFZ := hide (fun t => hO2.own.frozenAt t)
              have e4 : IntKind.i64.wrap ((j : Int) - 1) = (j' : Int) := by rw [IntKind.wrap_i64]; omega
              have HJ := hide hj'
              clear hO2 hj' hya hat
              go_wp2_with (refine wpList_store_V rfl _ _ rfl g2 (j * 5) (ka, ba, na, sa, ua) rfl rfl ?hc1 ?hf1 ?_)
              case hc1 => exact HTH.out
              case hf1 => exact fun c _ => HFZ.out _
              refine ⟨⟨j', by have := HJ.out; omega, by omega, rfl, HS.out⟩, ?_⟩
              have := HJ.out
              simp [intOf]
              omega
            · obtain rfl : k = j := by omega
              obtain ⟨x0, x1, x2, x3, x4⟩ := HX.out _ hO2.bel
              have HS := hide (QO2.put hO2 k (by omega) (kx, bx, nx, sx, ux) _ (shv_end hk _))
              have HTH := hide (fun c hc => hO2.there (show k < out.length + 1 by omega) c hc)
              have HFZ := hide (fun t => hO2.own.frozenAt t)
              clear hO2
              go_wp2_with (refine wpList_store_V rfl _ _ rfl g2 (k * 5) (kx, bx, nx, sx, ux) rfl rfl ?hc1 ?hf1 ?_)
              case hc1 => exact HTH.out
              case hf1 => exact fun c _ => HFZ.out _
              refine ⟨⟨n + 1, out.take k ++ (kx, bx, nx, sx, ux) :: out.drop k, by omega, by simp, by have h := HS.out.qo; exact h, risV_put hk HRS.out HGT.out HLO.out, fun z => by rw [mem_putV, takeV_next hlt, HMEM.out z, HXL.out], by simp; omega⟩, ?_⟩
              simp [intOf]
              omega
        · obtain ⟨m, hm⟩ : ∃ m, k = m + 1 := ⟨k - 1, by omega⟩
          obtain ⟨go, oo, rfl, _, hoc⟩ := HOUT.out (fun e => by rw [e] at hk; simp at hk; omega)
          have hml : m < out.length := by omega
          obtain ⟨ky, yb, ny, sy, uy, hy⟩ : ∃ ky yb ny sy uy, out[m] = (ky, yb, ny, sy, uy) := ⟨_, _, _, _, _, rfl⟩
          have hoo : oo = 0 := by
            rcases hO.own.2 with ⟨e, _⟩ | ⟨_, _, _, e, _⟩
            · cases e
            · injection e with e _ _
              injection e with e
              injection e
          subst hoo
          have hcy : ∀ W : World, W.ownsRow w.heap.size 25 5 (.slice (some ⟨go, 0, none⟩) out.length co) out.length (cel enc5 5 out) → five W go (m * 5) ky yb ny sy uy := fun W hW => by
            have h := five_of (W := W) (g := go) (off := 0) (l := out) (fun t u ht => by rw [Nat.zero_add, hW.cellAt t (by have := (List.getElem?_eq_some_iff.1 ht).1; rw [cel_len] at this; exact this)]; exact ht) hml hy
            rw [Nat.zero_add] at h
            exact h
          have HG := hide (fun n' os' => hcy _ (hO.grow n' os').own)
          have p0 := fun n' os' => (HG.out n' os').1
          have p1 := fun n' os' => (HG.out n' os').2.1
          have p2 := fun n' os' => (HG.out n' os').2.2.1
          have p3 := fun n' os' => (HG.out n' os').2.2.2.1
          have p4 := fun n' os' => (HG.out n' os').2.2.2.2
          have HMY := hide (show mayx (ky, yb, ny, sy, uy) by rw [← hy]; exact HALL.out _ (List.mem_of_mem_take ((HMEM.out _).1 (List.getElem_mem hml))))
          have e1 : IntKind.i64.wrap ((k : Int) - 1) = (m : Int) := by rw [IntKind.wrap_i64]; omega
          have z0 : 0 < k := by omega
          obtain ⟨z, hz⟩ : ∃ z, z = vo (ky, yb, ny, sy, uy) (kx, bx, nx, sx, ux) := ⟨_, rfl⟩
          have C20 := hide (fun W => dcmp_any (ky, yb, ny, sy, uy) (kx, bx, nx, sx, ux) HMY.out HMX.out W)
          rw [← hz] at C20
          clear hO HOUT hcy hoc
          by_cases hxy : vlt (kx, bx, nx, sx, ux) (ky, yb, ny, sy, uy)
          · have hz1 : 0 < z := by rw [hz]; exact (vo_pos _ _).2 hxy
            have HG2 := hide (show ∀ j (hj : j < out.length), m ≤ j → vlt (kx, bx, nx, sx, ux) out[j] from fun j hj h => by
              by_cases e : j = m
              · subst e; rw [hy]; exact hxy
              · exact HGT.out j hj (by omega))
            clear hxy hy hz
            have HM := hide hm
            clear hm hk0
            go_wp2_with fail
            go_quiet_grown (first | (go_at_call 20; refine Calls.grown_of (C20.out _)))
            go_wp2_with fail
            go_roundw
            case rel => exact ⟨m, by omega, by first | rfl | go_num, HO.out.grow _ _, HG2.out⟩
            case measure => have := HM.out; simp [intOf]; omega
          · have hz1 : z ≤ 0 := by
              have h := vo_pos (ky, yb, ny, sy, uy) (kx, bx, nx, sx, ux)
              rw [← hz] at h
              exact Int.not_lt.1 fun hh => hxy (h.1 hh)
            by_cases hyx : (ky, yb, ny, sy, uy) = (kx, bx, nx, sx, ux)
            · have HIN := hide (show (kx, bx, nx, sx, ux) ∈ out by rw [← hyx, ← hy]; exact List.getElem_mem hml)
              injection hyx with q1 q2
              injection q2 with q2 q3
              injection q3 with q3 q4
              injection q4 with q4 q5
              subst q1 q2 q3 q4 q5
              clear hxy hy hm hk0 hz
              go_wp2_with fail
              go_quiet_grown (first | (go_at_call 20; refine Calls.grown_of (C20.out _)))
              go_wp2_with fail
              go_quiet (fail)
              go_wp2_with fail
              go_roundw
              case rel => exact ⟨n + 1, out, by omega, by go_num, (HO.out.grow _ _).drewN _, HRS.out, fun z => by rw [takeV_next hlt, HMEM.out z, HXL.out]; constructor <;> (intro h; first | exact Or.inl h | (rcases h with h | h; exact h; rw [h]; exact (HMEM.out _).1 HIN.out)), by omega⟩
              case measure => simp [intOf]; omega
            · have hvyx : vlt (ky, yb, ny, sy, uy) (kx, bx, nx, sx, ux) := by
                rcases vlt_tri (ky, yb, ny, sy, uy) (kx, bx, nx, sx, ux) with h | h | h
                · exact h
                · exact absurd h hyx
                · exact absurd h hxy
              have HLO := hide (show ∀ j (hj : j < out.length), j < k → vlt out[j] (kx, bx, nx, sx, ux) from fun j hj h => by
                by_cases e : j = m
                · subst e; rw [hy]; exact hvyx
                · exact vlt_trans (List.pairwise_iff_getElem.1 HRS.out j m hj hml (by omega)) (by rw [hy]; exact hvyx))
              have heq : ∀ W, (binOp .eql 25 (.agg #[.int .u8 ky, .bool yb, .int .i64 ny, .string sy, .int .u64 uy]) (.agg #[.int .u8 kx, .bool bx, .int .i64 nx, .string sx, .int .u64 ux])).run Tryd.prog W = .ok (.bool false) W := fun W => by
                have h := eql25 (ky, yb, ny, sy, uy) (kx, bx, nx, sx, ux) W
                rw [decide_eq_false hyx] at h
                exact h
              have HM := hide hm
              clear hxy hy hyx hm hk0 hz hvyx
              go_wp2_with fail
              go_quiet_grown (first | (go_at_call 20; refine Calls.grown_of (C20.out _)))
              go_wp2_with fail
              have HO3 := hide (HO.out.grow nq osq)
              have r0 := f0 nq osq
              have r1 := f1 nq osq
              have r2 := f2 nq osq
              have r3 := f3 nq osq
              have r4 := f4 nq osq
              have s0 := p0 nq osq
              have s1 := p1 nq osq
              have s2 := p2 nq osq
              have s3 := p3 nq osq
              have s4 := p4 nq osq
              clear f0 f1 f2 f3 f4 p0 p1 p2 p3 p4
              generalize grow (wr.drewN nq) osq = W3 at HO3 r0 r1 r2 r3 r4 s0 s1 s2 s3 s4 ⊢
              go_quiet (fail)
              go_wp2_with (at_builtin; refine qo_push (HO3.out.drewN _) (by omega) rfl _ _ rfl rfl rfl ?_; intro g2 co2 w1 hO1; have HO1 := hide hO1; clear hO1)
              have eL : IntKind.i64.wrap ((out.length : Int) + 1 - 1) = (out.length : Int) := by rw [IntKind.wrap_i64]; omega
              go_wp2_with fail
              go_loopw [6] (fun jv W => ∃ j : Nat, k ≤ j ∧ j ≤ out.length ∧ jv = .int .i64 j ∧ QO2 w W g2 (out.length + 1) co2 (shv out j)) (fun jv _ => (intOf jv).toNat)
              case atStart => exact ⟨out.length, hk, Nat.le_refl _, rfl, HO1.out⟩
              case round =>
                clear HO1 HO3 d0 d1 d2 d3 d4 r0 r1 r2 r3 r4 s0 s1 s2 s3 s4 heq
                obtain ⟨j, hj1, hj2, rfl, hO2⟩ := hrel
                have HO2 := hide hO2
                have d6 := hO2.le
                by_cases hjk : k < j
                · obtain ⟨j', hj'⟩ : ∃ j', j = j' + 1 := ⟨j - 1, by omega⟩
                  have hjl : j' < out.length := by omega
                  obtain ⟨ka, ba, na, sa, ua, hya⟩ : ∃ ka ba na sa ua, out[j'] = (ka, ba, na, sa, ua) := ⟨_, _, _, _, _, rfl⟩
                  have hat : (shv out j)[j']? = some (ka, ba, na, sa, ua) := by rw [hj', shv_at hjl, hya]
                  have m0 : wr.cell? ⟨g2, j' * 5, none⟩ = some (.int .u8 ka) := hO2.cell (c := 0) (by omega) hat (by decide) rfl
                  have m1 : wr.cell? ⟨g2, j' * 5 + 1, none⟩ = some (.bool ba) := hO2.cell (c := 1) (by omega) hat (by decide) rfl
                  have m2 : wr.cell? ⟨g2, j' * 5 + 2, none⟩ = some (.int .i64 na) := hO2.cell (c := 2) (by omega) hat (by decide) rfl
                  have m3 : wr.cell? ⟨g2, j' * 5 + 3, none⟩ = some (.string sa) := hO2.cell (c := 3) (by omega) hat (by decide) rfl
                  have m4 : wr.cell? ⟨g2, j' * 5 + 4, none⟩ = some (.int .u64 ua) := hO2.cell (c := 4) (by omega) hat (by decide) rfl
                  have HS := hide (QO2.put hO2 j (by omega) (ka, ba, na, sa, ua) (shv out j') (by rw [hj', ← hya]; exact shv_step hjl))
                  have HTH := hide (fun c hc => hO2.there (show j < out.length + 1 by omega) c hc)
                  have HFZ := hide (fun t => hO2.own.frozenAt t)
                  have e4 : IntKind.i64.wrap ((j : Int) - 1) = (j' : Int) := by rw [IntKind.wrap_i64]; omega
                  have HJ := hide hj'
                  clear hO2 hj' hya hat
                  go_wp2_with (refine wpList_store_V rfl _ _ rfl g2 (j * 5) (ka, ba, na, sa, ua) rfl rfl ?hc1 ?hf1 ?_)
                  case hc1 => exact HTH.out
                  case hf1 => exact fun c _ => HFZ.out _
                  refine ⟨⟨j', by have := HJ.out; omega, by omega, rfl, HS.out⟩, ?_⟩
                  have := HJ.out
                  simp [intOf]
                  omega
                · obtain rfl : k = j := by omega
                  obtain ⟨x0, x1, x2, x3, x4⟩ := HX.out _ hO2.bel
                  have HS := hide (QO2.put hO2 k (by omega) (kx, bx, nx, sx, ux) _ (shv_end hk _))
                  have HTH := hide (fun c hc => hO2.there (show k < out.length + 1 by omega) c hc)
                  have HFZ := hide (fun t => hO2.own.frozenAt t)
                  clear hO2
                  go_wp2_with (refine wpList_store_V rfl _ _ rfl g2 (k * 5) (kx, bx, nx, sx, ux) rfl rfl ?hc1 ?hf1 ?_)
                  case hc1 => exact HTH.out
                  case hf1 => exact fun c _ => HFZ.out _
                  refine ⟨⟨n + 1, out.take k ++ (kx, bx, nx, sx, ux) :: out.drop k, by omega, by simp, by have h := HS.out.qo; exact h, risV_put hk HRS.out HGT.out HLO.out, fun z => by rw [mem_putV, takeV_next hlt, HMEM.out z, HXL.out], by simp; omega⟩, ?_⟩
                  simp [intOf]
                  omega
    · go_wp2_with fail
      go_ret
      exact ⟨_, out, rfl, own_rv HO.out.own, HO.out.bel, HRS.out, by rw [List.take_of_length_le (by omega)] at HMEM; exact HMEM.out⟩
end Go.Proofs.YtomnajoflcjnfaaDoor
