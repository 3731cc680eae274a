/- The predicates of a row of writes, rising: by the program and by the document. The document's Wrong and Find over a row of schemas. What the document's Claims answers. The program's and the document's answers to Claims are one, plain. -/
import Derived.Test.YtgghcfmpfneehaaGreatDoorMgA
import Derived.Test.YtgghcfmpfneehaaGreatDoorClaF
import Derived.Test.YtgghcfmpfneehaaGreatDoorMgB
import Derived.Test.YtgghcfmpfneehaaGreatDoorTriI
namespace Go.Proofs.YtgghcfmpfneehaaGreatDoor
open Go.RowKit Go.Maps Go.Sort
theorem or_to {a b c d : Prop} (h : a ∨ b) (f : a → c) (g : b → d) : c ∨ d := h.elim (fun x => Or.inl (f x)) (fun x => Or.inr (g x))
theorem ba_back (q : ByteArray) : (⟨q.data.toList.toArray⟩ : ByteArray) = q := by apply ba_ext; simp
theorem ro_add {ops : Array Oper} {rest : List Oper} {o : Oper} {a : Act} {Q : Exit → Act → World → Prop} {w W : World} {vo : Value} {out : List (List UInt8)} (c : List UInt8) (h : RO w W vo out) (hb : out.length + 1 ≤ 1048577)
    (hgd : o.guard = none) (s x : Operand) (ho : o.op = .call { callee := .builtin .append, args := #[s, x], argTypes := #[43, 43] }) (hs : a.eval s = vo) (hx : a.eval x = .slice (some ⟨W.heap.size, 0, none⟩) 1 1)
    (hK : ∀ g cap w', RO w w' (.slice (some ⟨g, 0, none⟩) (out.length + 1) cap) (out ++ [c]) → wpList Tryz.prog ops Q rest (a.put o.dst (.slice (some ⟨g, 0, none⟩) (out.length + 1) cap)) w') : wpList Tryz.prog ops Q (o :: rest) a (W.alloc (.cells #[.string ⟨c.toArray⟩] 9)) := by
  obtain ⟨i0, hi, hz0, hz1, hz2⟩ := Tryz.i9
  have hBW : w.heap.size ≤ W.heap.size := h.bel.size
  refine wpList_append_lies (P := Tryz.prog) _ hgd s x 43 ho w.heap.size 9 i0 (.string ⟨#[]⟩) 1 16 Tryz.underlying43 hi hz0 hz1 hz2 rfl (by decide) vo out.length (out.map encStr) hs (h.own.alloc _) ⟨W.heap.size, 0, none⟩ 1 1 [.string ⟨c.toArray⟩] hx rfl (cells_new W _ 9) (fun u hu => by rw [List.mem_singleton.1 hu]; rfl) (by decide) (by unfold maxLen; omega) (by omega) (Nat.le_trans hBW (by simp)) _ rfl ?_
  intro g cap w' hown hgrow _ _
  refine hK g cap w' ⟨?_, (Below.alloc h.bel hBW _).grown hgrow (Nat.le_trans hBW (by simp)) (fun k hk => (h.own.lt k hk).1)⟩
  rw [List.length_append, List.map_append]
  exact hown
/-- A write's predicate. -/
def prW (x : Wm) : List UInt8 := x.2.2.1.data.toList
theorem take_map {X : List Wm} {f : Wm → List UInt8} {k : Nat} (h : k < X.length) : (X.take (k + 1)).map f = (X.take k).map f ++ [f X[k]] := by
  rw [List.take_succ_eq_append_getElem h, List.map_append]; rfl
set_option maxHeartbeats 1000000 in
set_option maxRecDepth 100000 in
theorem preds_any (a2 : Option Addr) (g2 off2 cap2 : Nat) (X : List Wm) (ha2 : X.length ≠ 0 → a2 = some ⟨g2, off2, none⟩) (w : World) (hx : X.length ≤ 1000000) (hrow2 : RowW w g2 off2 X) (hmx : ∀ x ∈ X, x.2.2.1.size ≤ maxLen) :
    Calls Tryz.prog 13 #[.slice a2 X.length cap2] w fun e w' => trmR (X.map prW) w e w' := by
  have hmm := @run_makeMap Tryz.prog
  obtain ⟨n, hn⟩ : ∃ n, X.length = n := ⟨_, rfl⟩
  rw [hn] at hx ha2 ⊢
  have HA2 := hide ha2
  have Hn := hide hn
  have HR2 := hide hrow2
  have HMX := hide hmx
  clear hn hrow2 hmx ha2
  go_enter Tryz.func13, Tryz.ntmps13
  go_wp2_with fail
  go_loopw [5, 9] (fun _ vi W => ∃ k : Nat, k ≤ n ∧ vi = .int .i64 k ∧ Hid (Bel w W ∧ W.ownsMap Tryz.prog 9 unitElem w.heap.size k (SnU ((X.take k).map prW)))) (fun _ vi _ => n - (intOf vi).toNat)
  case atStart => exact ⟨0, Nat.zero_le _, rfl, hide ⟨(Bel.refl _).alloc _, by rw [List.take_zero, List.map_nil, SnU_nil]; exact World.ownsMap_made _ _ _ _⟩⟩
  case round =>
    obtain ⟨j, hj, rfl, HO⟩ := hrel
    have HBW := hide HO.out.1
    have HOWN := hide HO.out.2
    clear HO
    by_cases hlt : j < n
    · have hjl : j < X.length := by rw [Hn.out]; exact hlt
      have ea := HA2.out (by omega)
      subst ea
      obtain ⟨d, u, q, k, b, m, s, v, he⟩ : ∃ d u q k b m s v, X[j] = ((d, u, q, k, b, m, s, v) : Wm) := ⟨_, _, _, _, _, _, _, _, rfl⟩
      obtain ⟨c0, c1, c2, c3, c4, c5, c6, c7⟩ := (HR2.out.next HBW.out).cells hjl he
      have hq := HMX.out X[j] (List.getElem_mem hjl)
      have HP : Hid (prW X[j] = q.data.toList) := hide (by rw [he]; rfl)
      rw [he] at hq
      clear he
      have hkey := key_ok (x := q.data.toList) (by simpa using hq)
      rw [ba_back] at hkey
      have hown2 := HOWN.out.alloc (.cells #[.bool d, .int .u64 u, .string q, .int .u8 k, .bool b, .int .i64 m, .string s, .int .u64 v] 29)
      go_wp2_with (first | (at_mapUpdate; refine wpList_mapUpdate_own _ rfl _ _ _ 84 rfl 9 86 law9 Tryz.underlying84 unitElem w.heap.size j _ rfl hown2 (by unfold maxLen; omega) _ _ _ rfl rfl hkey _ [] unitElem_mk ?_; intro w3 hown3 hgrow3) | go_in)
      have hb2 := HBW.out.alloc (.cells #[.bool d, .int .u64 u, .string q, .int .u8 k, .bool b, .int .i64 m, .string s, .int .u64 v] 29)
      refine ⟨⟨j + 1, by omega, by go_num, hide ⟨?_, ?_⟩⟩, by simp [intOf]; omega⟩
      · exact hb2.grown hgrow3 hb2.size (fun i hi => by cases hi; exact Nat.le_refl _)
      · rw [take_map hjl, SnU_snoc, HP.out]
        exact hown3
    · obtain rfl : j = n := by omega
      have hsz : Maps.size (SnU ((X.take j).map prW)) ≤ j := HOWN.out.size_le
      have hR := hide (rising_map w.heap.size j (SnU ((X.take j).map prW)) wr HOWN.out (by unfold maxLen; omega) (by omega))
      go_wp2_with (first | (go_at_call 43; refine hR.out.mono ?_; rintro e w2 ⟨g3, cap3, zs, rfl, hp, hm, hrw, hbl⟩) | go_in)
      go_ret
      have hbl' : Bel wr w2 := hbl
      refine ⟨_, zs, rfl, rs_of hrw, HBW.out.trans hbl', hp, fun x => ?_⟩
      rw [hm, SnU_has, decide_eq_true_eq, List.take_of_length_le (by rw [Hn.out]; exact Nat.le_refl _)]
set_option maxHeartbeats 1000000 in
set_option maxRecDepth 100000 in
theorem refPreds_any (a2 : Option Addr) (g2 off2 cap2 : Nat) (X : List Wm) (ha2 : X.length ≠ 0 → a2 = some ⟨g2, off2, none⟩) (w : World) (hx : X.length ≤ 16000) (hrow2 : RowW w g2 off2 X) :
    Calls Tryz.prog 14 #[.slice a2 X.length cap2] w fun e w' => trmR (X.map prW) w e w' := by
  obtain ⟨n, hn⟩ : ∃ n, X.length = n := ⟨_, rfl⟩
  rw [hn] at hx ha2 ⊢
  have HA2 := hide ha2
  have Hn := hide hn
  have HR2 := hide hrow2
  clear hn hrow2 ha2
  go_enter Tryz.func14, Tryz.ntmps14
  go_wp2_with fail
  go_loopw [3, 4] (fun vo vi W => ∃ k : Nat, k ≤ n ∧ vi = .int .i64 k ∧ Hid (RO w W vo ((X.take k).map prW))) (fun _ vi _ => n - (intOf vi).toNat)
  case atStart => exact ⟨0, Nat.zero_le _, rfl, hide ⟨World.ownsRow_nil _ _ _ _, Bel.refl _⟩⟩
  case round =>
    obtain ⟨j, hj, rfl, HO⟩ := hrel
    by_cases hlt : j < n
    · have hjl : j < X.length := by rw [Hn.out]; exact hlt
      have ea := HA2.out (by omega)
      subst ea
      obtain ⟨d, u, q, k, b, m, s, v, he⟩ : ∃ d u q k b m s v, X[j] = ((d, u, q, k, b, m, s, v) : Wm) := ⟨_, _, _, _, _, _, _, _, rfl⟩
      have c2 := ((HR2.out.next HO.out.bel).cells hjl he).2.2.1
      have HP : Hid (prW X[j] = q.data.toList) := hide (by rw [he]; rfl)
      clear he
      rw [← ba_back q] at c2
      generalize q.data.toList = t at c2 HP
      have hlen : ((X.take j).map prW).length = j := by simp; omega
      go_wp2_with (first | (at_builtin; refine ro_add t HO.out (by rw [hlen]; omega) rfl _ _ rfl rfl rfl ?_; intro g3 cap3 w3 hO3) | go_in)
      rw [hlen] at hO3
      rw [show min j X.length = j by omega]
      refine ⟨⟨j + 1, by omega, by go_num, hide ?_⟩, by simp [intOf]; omega⟩
      rw [take_map hjl, HP.out]
      exact hO3
    · obtain rfl : j = n := by omega
      have hrs := rs_of HO.out.own
      rw [List.take_of_length_le (by rw [Hn.out]; exact Nat.le_refl _)] at hrs
      have hR := hide (rising_any (X.map prW) _ wr hrs (by simp [Hn.out]; omega))
      go_wp2_with (first | (go_at_call 49; refine hR.out.mono ?_; rintro e w2 ⟨v, l, rfl, hv, hb, hl, hm⟩) | go_in)
      go_ret
      exact ⟨v, l, rfl, hv, HO.out.bel.trans hb, hl, hm⟩
end Go.Proofs.YtgghcfmpfneehaaGreatDoor
namespace Go.Proofs.YtgghcfmpfneehaaGreatDoor
open Go.RowKit Go.Sort
/-- What Wrong answers: the place, or none. -/
def wrR (L : List Sm) (z : Int) : Prop := (∃ i : Nat, z = i ∧ i < L.length ∧ badS L i ∧ ∀ j, j < i → ¬ badS L j) ∨ (z = -1 ∧ ∀ j, j < L.length → ¬ badS L j)
set_option maxHeartbeats 1000000 in
set_option maxRecDepth 100000 in
theorem wrong_any (a : Option Addr) (g off cap : Nat) (L : List Sm) (ha : L.length ≠ 0 → a = some ⟨g, off, none⟩) (w : World) (hl : L.length ≤ 1000000) (hrow : Row8 w g off L) :
    Calls Tryz.prog 44 #[.slice a L.length cap] w fun e w' => ∃ z : Int, e = .returned (.int .i64 z) ∧ Bel w w' ∧ wrR L z := by
  obtain ⟨n, hn⟩ : ∃ n, L.length = n := ⟨_, rfl⟩
  rw [hn] at hl ha ⊢
  have HA := hide ha
  have Hn := hide hn
  have HR := hide hrow
  clear hn hrow ha
  go_enter Tryz.func44, Tryz.ntmps44
  go_wp2_with fail
  go_loopw [3] (fun vi W => ∃ i : Nat, i ≤ n ∧ vi = .int .i64 i ∧ Bel w W ∧ Hid (∀ j, j < i → ¬ badS L j)) (fun vi _ => n - (intOf vi).toNat)
  case atStart => exact ⟨0, Nat.zero_le _, rfl, Bel.refl _, hide fun j hj => by omega⟩
  case round =>
    obtain ⟨i, hin, rfl, hb, HI⟩ := hrel
    have HB := hide hb
    clear hb
    by_cases hlt : i < n
    · have hil : i < L.length := by have := Hn.out; omega
      have ea := HA.out (by omega)
      subst ea
      by_cases h256 : 256 ≤ i
      · have h25 : i = 256 := by
          apply Decidable.byContradiction
          intro hne
          exact HI.out 256 (by omega) (Or.inl rfl)
        subst h25
        go_wp2_with fail
        go_ret
        exact ⟨256, rfl, HB.out, Or.inl ⟨256, rfl, hil, Or.inl rfl, HI.out⟩⟩
      · obtain ⟨p, t, l, x, tm, od, rv, ct, he⟩ : ∃ p t l x tm od rv ct, L[i] = ((p, t, l, x, tm, od, rv, ct) : Sm) := ⟨_, _, _, _, _, _, _, _, rfl⟩
        obtain ⟨c0, c1, c2, c3, c4, c5, c6, c7⟩ := (HR.out.next HB.out).cells hil he
        have g0 := cell_bel c0
        have g1 := cell_bel c1
        have g2 := cell_bel c2
        have g3 := cell_bel c3
        have g4 := cell_bel c4
        have g5 := cell_bel c5
        have g6 := cell_bel c6
        have g7 := cell_bel c7
        have hS := hide (fun W => refSchema_any p t l x tm od rv ct W)
        unfold sc at hS
        have hE : eSm L[i] = eS p t tm od rv := by rw [he]; rfl
        have Hp : Hid (L[i].1 = p) := hide (by rw [he])
        clear he c0 c1 c2 c3 c4 c5 c6 c7
        rw [← hE] at hS
        obtain ⟨E, hE'⟩ : ∃ E, eSm L[i] = E := ⟨_, rfl⟩
        rw [hE'] at hS
        have HE := hide hE'
        have H256 := hide h256
        clear hE hE'
        have hfol : Tryz.prog.follows .mixedOrders = true := by kernel_rfl
        go_wp2_with fail
        have hne := BelBy.some wr
        by_cases hE0 : E = 0
        · subst hE0
          by_cases hi0 : i = 0
          · subst hi0
            simp only [Nat.zero_mul, Nat.add_zero] at g0 g1 g2 g3 g4 g5 g6 g7
            refine wp_region_bel hfol (by kernel_rfl) ?_
            repeat (go_big_quiet_step (first | (go_at_call 83; refine calls_by (hS.out _))))
            refine wpQuiet_nil ?_
            intro w2 hw'
            obtain ⟨⟨_, hb2⟩, hw''⟩ := hw'
            subst hw''
            clear g0 g1 g2 g3 g4 g5 g6 g7 hne
            go_wp2_with fail
            refine ⟨⟨1, hlt, by go_num, HB.out.trans hb2, hide fun j hj => ?_⟩, by simp [intOf]; omega⟩
            obtain rfl : j = 0 := by omega
            rintro (h | ⟨_, h⟩ | ⟨k, hk, _⟩)
            · omega
            · exact h HE.out
            · omega
          · obtain ⟨m, hm⟩ : ∃ m, m + 1 = i := ⟨i - 1, by omega⟩
            have hml : m < L.length := by omega
            have hmn : m < n := by omega
            have im : ((i : Int) - 1) = (m : Int) := by omega
            have ipos : 0 < i := by omega
            have Hm := hide hm
            clear hm hi0
            obtain ⟨p', t', l', x', tm', od', rv', ct', he'⟩ : ∃ p t l x tm od rv ct, L[m] = ((p, t, l, x, tm, od, rv, ct) : Sm) := ⟨_, _, _, _, _, _, _, _, rfl⟩
            have q0 := cell_bel ((HR.out.next HB.out).cells hml he').1
            have Hp' : Hid (L[m].1 = p') := hide (by rw [he'])
            clear he'
            obtain ⟨bl, hbl⟩ : ∃ bl, Op.bytesLess p'.toList p.toList = bl := ⟨_, rfl⟩
            have HBL := hide hbl
            cases bl
            · refine wp_region_bel hfol (by kernel_rfl) ?_
              repeat (go_big_quiet_step (first | (go_at_call 83; refine calls_by (hS.out _))))
              refine wpQuiet_nil ?_
              intro w2 hw'
              obtain ⟨⟨_, hb2⟩, hw''⟩ := hw'
              subst hw''
              clear g0 g1 g2 g3 g4 g5 g6 g7 hne q0
              go_wp2_with fail
              go_ret
              exact ⟨i, rfl, HB.out.trans hb2, Or.inl ⟨i, rfl, hil, Or.inr (Or.inr ⟨m, Hm.out, hml, hil, by rw [Hp'.out, Hp.out]; exact HBL.out⟩), HI.out⟩⟩
            · refine wp_region_bel hfol (by kernel_rfl) ?_
              repeat (go_big_quiet_step (first | (go_at_call 83; refine calls_by (hS.out _))))
              refine wpQuiet_nil ?_
              intro w2 hw'
              obtain ⟨⟨_, hb2⟩, hw''⟩ := hw'
              subst hw''
              clear g0 g1 g2 g3 g4 g5 g6 g7 hne q0
              go_wp2_with fail
              refine ⟨⟨i + 1, by omega, by go_num, HB.out.trans hb2, hide fun j hj => ?_⟩, by simp [intOf]; omega⟩
              by_cases hji : j = i
              · subst hji
                rintro (h | ⟨_, h⟩ | ⟨k, hk, h1, h2, h⟩)
                · have := H256.out; omega
                · exact h HE.out
                · obtain rfl : k = m := by have := Hm.out; omega
                  rw [Hp'.out, Hp.out, HBL.out] at h
                  cases h
              · exact HI.out j (by omega)
        · have hE' : (E != 0) = true := by rw [bne_iff_ne]; exact hE0
          refine wp_region_bel hfol (by kernel_rfl) ?_
          repeat (go_big_quiet_step (first | (go_at_call 83; refine calls_by (hS.out _))))
          refine wpQuiet_nil ?_
          intro w2 hw'
          obtain ⟨⟨_, hb2⟩, hw''⟩ := hw'
          subst hw''
          clear g0 g1 g2 g3 g4 g5 g6 g7 hne
          go_wp2_with fail
          go_ret
          exact ⟨i, rfl, HB.out.trans hb2, Or.inl ⟨i, rfl, hil, Or.inr (Or.inl ⟨hil, by rw [HE.out]; exact hE0⟩), HI.out⟩⟩
    · go_wp2_with fail
      go_ret
      exact ⟨-1, rfl, HB.out, Or.inr ⟨rfl, fun j hj => HI.out j (by have := Hn.out; omega)⟩⟩
/-- What Find answers: the first place of a name, or none. -/
def fdR (L : List Sm) (q : ByteArray) (z : Int) : Prop := (∃ i : Nat, z = i ∧ ∃ h : i < L.length, L[i].1 = q ∧ ∀ j (h : j < L.length), j < i → L[j].1 ≠ q) ∨ (z = -1 ∧ ∀ j (h : j < L.length), L[j].1 ≠ q)
set_option maxRecDepth 100000 in
theorem find_any (a : Option Addr) (g off cap : Nat) (L : List Sm) (ha : L.length ≠ 0 → a = some ⟨g, off, none⟩) (q : ByteArray) (w : World) (hl : L.length ≤ 1000000) (hrow : Row8 w g off L) :
    Calls Tryz.prog 45 #[.slice a L.length cap, .string q] w fun e w' => ∃ z : Int, e = .returned (.int .i64 z) ∧ w' = w ∧ fdR L q z := by
  obtain ⟨n, hn⟩ : ∃ n, L.length = n := ⟨_, rfl⟩
  rw [hn] at hl ha ⊢
  have HA := hide ha
  have Hn := hide hn
  have HR := hide hrow
  clear hn hrow ha
  go_enter Tryz.func45, Tryz.ntmps45
  go_wp2_with fail
  go_loop [5] (fun vi => ∃ i : Nat, i ≤ n ∧ vi = .int .i64 i ∧ Hid (∀ j (h : j < L.length), j < i → L[j].1 ≠ q)) (fun vi => n - (intOf vi).toNat)
  case atStart => exact ⟨0, Nat.zero_le _, rfl, hide fun j _ hj => by omega⟩
  case round =>
    obtain ⟨i, hin, rfl, HI⟩ := hrel
    by_cases hlt : i < n
    · have hil : i < L.length := by have := Hn.out; omega
      have ea := HA.out (by omega)
      subst ea
      obtain ⟨p, t, l, x, tm, od, rv, ct, he⟩ : ∃ p t l x tm od rv ct, L[i] = ((p, t, l, x, tm, od, rv, ct) : Sm) := ⟨_, _, _, _, _, _, _, _, rfl⟩
      have c0 := (HR.out.cells hil he).1
      have Hp : Hid (L[i].1 = p) := hide (by rw [he])
      clear he
      by_cases hpq : p = q
      · subst hpq
        have hq : (p.toList == p.toList) = true := by simp
        go_wp2_with fail
        go_ret
        exact ⟨i, rfl, rfl, Or.inl ⟨i, rfl, hil, Hp.out, HI.out⟩⟩
      · have hq : (p.toList == q.toList) = false := by
          rw [beq_eq_false_iff_ne]
          intro h
          apply hpq
          rw [ByteArray.toList_eq, ByteArray.toList_eq] at h
          exact ba_ext h
        have HPQ := hide hpq
        clear hpq
        go_wp2_with fail
        go_round
        case rel =>
          refine ⟨i + 1, by omega, by go_num, hide fun j h hj => ?_⟩
          by_cases hji : j = i
          · subst hji; rw [Hp.out]; exact HPQ.out
          · exact HI.out j h (by omega)
        case measure => simp [intOf]; omega
    · go_wp2_with fail
      go_ret
      exact ⟨-1, rfl, rfl, Or.inr ⟨rfl, fun j h => HI.out j h (by have := Hn.out; omega)⟩⟩
end Go.Proofs.YtgghcfmpfneehaaGreatDoor
namespace Go.Proofs.YtgghcfmpfneehaaGreatDoor
open Go.RowKit Go.Maps Go.Sort
theorem RO.fwd {w W W' : World} {vo : Value} {out : List (List UInt8)} (h : RO w W vo out) (hb : Bel W W') : RO w W' vo out :=
  ⟨⟨h.own.1, or_to h.own.2 id (fun ⟨g, cap, cur, e, hg, hh, r⟩ => ⟨g, cap, cur, e, hg, hb.row hh, r⟩)⟩, h.bel.trans hb⟩
/-- What the document says of one write: the text, the fault. -/
def dclR (L : List Sm) (u : Nat) (q : ByteArray) (k : Int) (b : Bool) (n : Int) (s : ByteArray) (v : Int) (x : List UInt8) (e : Int) : Prop :=
  (eT u q k b n s v ≠ 0 ∧ e = eT u q k b n s v) ∨ (eT u q k b n s v = 0 ∧ ∃ z, fdR L q z ∧ ((z = -1 ∧ e = 5) ∨ (∃ i : Nat, z = i ∧ ∃ h : i < L.length, (k ≠ L[i].2.1 ∧ e = 42) ∨ (k = L[i].2.1 ∧ x = clmS L[i].2.2.1 u q k b n s v ∧ e = 0))))
def dclW (L : List Sm) (X : Wm) (x : List UInt8) (e : Int) : Prop := dclR L X.2.1 X.2.2.1 X.2.2.2.1 X.2.2.2.2.1 X.2.2.2.2.2.1 X.2.2.2.2.2.2.1 X.2.2.2.2.2.2.2 x e
/-- What the document's Claims answers. -/
def dcsR (L : List Sm) (X : List Wm) (w : World) (e : Ending) (w' : World) : Prop := ∃ (r : Value) (z : Int) (er : Int), e = .returned (.tuple #[r, .int .i64 z, .int .i64 er]) ∧ Bel w w' ∧
  ((∃ y, wrR L y ∧ 0 ≤ y ∧ z = y ∧ r = .slice none 0 0 ∧ er = 43) ∨
   (wrR L (-1) ∧ 256 < X.length ∧ r = .slice none 0 0 ∧ z = 256 ∧ er = 4) ∨
   (wrR L (-1) ∧ X.length ≤ 256 ∧ r = .slice none 0 0 ∧ er ≠ 0 ∧ ∃ at' : Nat, z = at' ∧ (∃ h : at' < X.length, ∃ t, dclW L X[at'] t er) ∧ ∀ j (h : j < X.length), j < at' → ∃ t, dclW L X[j] t 0) ∨
   (wrR L (-1) ∧ X.length ≤ 256 ∧ z = X.length ∧ er = 0 ∧ ∃ ks : List (List UInt8), ks.length = X.length ∧ (∀ j (h : j < X.length) (h' : j < ks.length), dclW L X[j] ks[j] 0) ∧
      ∃ zs : List (List UInt8), RS w' r zs ∧ ris zs ∧ ∀ x, x ∈ zs ↔ x ∈ ks))
set_option maxHeartbeats 2000000 in
set_option maxRecDepth 100000 in
theorem refClaims_any (a a2 : Option Addr) (g off cap : Nat) (L : List Sm) (ha : L.length ≠ 0 → a = some ⟨g, off, none⟩) (g2 off2 cap2 : Nat) (X : List Wm) (ha2 : X.length ≠ 0 → a2 = some ⟨g2, off2, none⟩) (w : World) (hl : L.length ≤ 1000000) (hrow : Row8 w g off L) (hx : X.length ≤ 1000000) (hrow2 : RowW w g2 off2 X) (hin : ∀ x ∈ X, inW x) :
    Calls Tryz.prog 12 #[.slice a L.length cap, .slice a2 X.length cap2] w fun e w' => dcsR L X w e w' := by
  have hW := hide (wrong_any a g off cap L ha w hl hrow)
  have hFd := hide (fun q W (h : Row8 W g off L) => find_any a g off cap L ha q W hl h)
  obtain ⟨ln, hln⟩ : ∃ ln, L.length = ln := ⟨_, rfl⟩
  obtain ⟨n, hn⟩ : ∃ n, X.length = n := ⟨_, rfl⟩
  rw [hln] at hl ha hFd hW ⊢
  rw [hn] at hx ha2 ⊢
  have HA := hide ha
  have HA2 := hide ha2
  have Hln := hide hln
  have Hn := hide hn
  have HR := hide hrow
  have HR2 := hide hrow2
  have HIN := hide hin
  have hfol : Tryz.prog.follows .mixedOrders = true := by kernel_rfl
  clear hln hn hrow hrow2 hin ha ha2
  go_enter Tryz.func12, Tryz.ntmps12
  go_wp2_with fail
  go_at_call 44
  refine hW.out.mono ?_
  rintro e w1 ⟨z, rfl, hb1, HWS⟩
  have HB1 := hide hb1
  have HWS' := hide HWS
  clear hW hb1 HWS
  by_cases hz0 : 0 ≤ z
  · go_wp2_with fail
    go_ret3
    exact ⟨_, z, 43, rfl, HB1.out, Or.inl ⟨z, HWS'.out, hz0, rfl, rfl, rfl⟩⟩
  · have HW0 : Hid (wrR L (-1)) := by
      rcases HWS'.out with ⟨i, h, _⟩ | ⟨h, h'⟩
      · omega
      · exact hide (Or.inr ⟨rfl, h'⟩)
    by_cases h256 : 256 < n
    · go_wp2_with fail
      go_ret3
      exact ⟨_, 256, 4, rfl, HB1.out, Or.inr (Or.inl ⟨HW0.out, by rw [Hn.out]; exact h256, rfl, rfl, rfl⟩)⟩
    · go_wp2_with fail
      go_loopw [8, 9, 10, 11, 12] (fun vo vi _ _ _ W => ∃ k : Nat, k ≤ n ∧ vi = .int .i64 k ∧ Hid (∃ ks : List (List UInt8), ks.length = k ∧ (∀ j (h : j < X.length) (h' : j < ks.length), dclW L X[j] ks[j] 0) ∧ RO w W vo ks)) (fun _ vi _ _ _ _ => n - (intOf vi).toNat)
      case atStart => exact ⟨0, Nat.zero_le _, rfl, hide ⟨[], rfl, fun j _ h' => by simp at h', ⟨World.ownsRow_nil _ _ _ _, HB1.out⟩⟩⟩
      case round =>
        obtain ⟨j, hj, rfl, HO⟩ := hrel
        obtain ⟨ks, hks, hcl, hro⟩ := HO.out
        have HKS := hide hks
        have HCL := hide hcl
        have HRO := hide hro
        clear hks hcl hro HO
        by_cases hlt : j < n
        · have hjl : j < X.length := by rw [Hn.out]; exact hlt
          have ea := HA2.out (by omega)
          subst ea
          obtain ⟨d, u, q, k, b, m, s, v, he⟩ : ∃ d u q k b m s v, X[j] = ((d, u, q, k, b, m, s, v) : Wm) := ⟨_, _, _, _, _, _, _, _, rfl⟩
          obtain ⟨c0, c1, c2, c3, c4, c5, c6, c7⟩ := (HR2.out.next HRO.out.bel).cells hjl he
          have hiw := HIN.out X[j] (List.getElem_mem hjl)
          rw [he] at hiw
          have HIW := hide hiw
          have HX : Hid (∀ t e, dclW L X[j] t e ↔ dclR L u q k b m s v t e) := hide (fun t e => by rw [he]; exact Iff.rfl)
          have hMay := hide (fun W => refMay_any u q k b m s v (by omega) (by exact hiw.2.2.2.1) W)
          unfold et at hMay
          obtain ⟨E, hE⟩ : ∃ E, eT u q k b m s v = E := ⟨_, rfl⟩
          rw [hE] at hMay
          have HE := hide hE
          clear he hiw hE
          go_wp2_with fail
          refine (hMay.out _).mono ?_
          rintro e w2 ⟨rfl, hb2⟩
          have HB2 := hide hb2
          have HBW2 := hide (HRO.out.bel.trans hb2)
          replace c0 := hb2.cell c0
          replace c1 := hb2.cell c1
          replace c2 := hb2.cell c2
          replace c3 := hb2.cell c3
          replace c4 := hb2.cell c4
          replace c5 := hb2.cell c5
          replace c6 := hb2.cell c6
          replace c7 := hb2.cell c7
          clear hMay hb2
          by_cases hE0 : E = 0
          · subst hE0
            go_wp2_with fail
            refine (hFd.out q _ (HR.out.next HBW2.out)).mono ?_
            rintro e w3 ⟨z2, rfl, rfl, hfd⟩
            have HFD := hide hfd
            by_cases hz2 : z2 < 0
            · go_wp2_with fail
              go_ret3
              have hz1 : z2 = -1 := by
                rcases HFD.out with ⟨i, h, _⟩ | ⟨h, _⟩
                · omega
                · exact h
              exact ⟨_, j, 5, rfl, HBW2.out, Or.inr (Or.inr (Or.inl ⟨HW0.out, by rw [Hn.out]; omega, rfl, by omega, j, rfl, ⟨hjl, [], (HX.out [] 5).2 (Or.inr ⟨HE.out, z2, HFD.out, Or.inl ⟨hz1, rfl⟩⟩)⟩, fun i hi hij => ⟨ks[i]'(by rw [HKS.out]; exact hij), HCL.out i hi _⟩⟩))⟩
            · obtain ⟨i, rfl, hil, hiq, hif⟩ : ∃ i : Nat, z2 = i ∧ ∃ h : i < L.length, L[i].1 = q ∧ ∀ j (h : j < L.length), j < i → L[j].1 ≠ q := by
                rcases hfd with h | ⟨h, _⟩
                · exact h
                · omega
              clear hfd hiq hif hz2
              have hin : i < ln := by rw [← Hln.out]; exact hil
              have ea := HA.out (by omega)
              subst ea
              obtain ⟨p, t, l, x, tm, od, rv, ct, he⟩ : ∃ p t l x tm od rv ct, L[i] = ((p, t, l, x, tm, od, rv, ct) : Sm) := ⟨_, _, _, _, _, _, _, _, rfl⟩
              obtain ⟨_, d1, d2, _⟩ := (HR.out.next HBW2.out).cells hil he
              have HT : Hid (L[i].2.1 = t) := hide (by rw [he])
              have HL : Hid (L[i].2.2.1 = l) := hide (by rw [he])
              clear he
              go_wp2_with fail
              have hne := BelBy.some w3
              have C3 := cell_bel c3
              have D1 := cell_bel d1
              by_cases hkt : k = t
              · have hk' : (k != t) = false := by rw [hkt]; simp
                have HKT := hide hkt
                clear hkt
                refine wp_region_bel hfol (by kernel_rfl) ?_
                repeat (go_big_quiet_step (fail))
                refine wpQuiet_nil ?_
                intro w4 hw'
                obtain ⟨⟨_, hb4⟩, hw''⟩ := hw'
                subst hw''
                have HBW4 := hide (HBW2.out.trans hb4)
                have HB4 := hide (HB2.out.trans hb4)
                replace c1 := hb4.cell c1
                replace c2 := hb4.cell c2
                replace c3 := hb4.cell c3
                replace c4 := hb4.cell c4
                replace c5 := hb4.cell c5
                replace c6 := hb4.cell c6
                replace c7 := hb4.cell c7
                replace d2 := hb4.cell d2
                clear c0 d1 C3 D1 hne hb4 HB2 HBW2
                have hps := name_short (eT_zero HE.out).2.1
                have hKy := hide (fun W => refKey_any q (by have := key_small q (by omega); omega) W)
                have hNm := hide (fun W => refNum_any u HIW.out.1 W)
                have hq1 : (num u).length ≤ 9 := num_len u HIW.out.1
                have hq2 : (key q.data.toList).length ≤ 10000 := key_small q (by omega)
                have hVy := hide (fun W => rbytes_yes (eT_zero HE.out).2.2 HIW.out.2.1 HIW.out.2.2.1 HIW.out.2.2.2.1 HIW.out.2.2.2.2 W)
                have hq3 : (byt k b m s v).length ≤ 20000 := byt_len (eT_zero HE.out).2.2 HIW.out.2
                have HCS : Hid (∀ ls, clmS ls u q k b m s v = key q.data.toList ++ num u ++ if ls then byt k b m s v else []) := hide (fun _ => rfl)
                generalize num u = N at *
                generalize key q.data.toList = K at *
                generalize byt k b m s v = V at *
                unfold ev at hVy
                have q1 : ¬ (9223372036854775807 < K.length + N.length) := by omega
                have q2 : ¬ (9223372036854775807 < K.length + N.length + V.length) := by omega
                clear hps hq1 hq2 hq3
                go_wp2_with fail
                have C1 := cell_bel c1
                have C2 := cell_bel c2
                have hne := BelBy.some w4
                refine wp_region_bel hfol (by kernel_rfl) ?_
                repeat (go_big_quiet_step (first | (go_at_call 46; refine calls_by (hKy.out _)) | (go_at_call 47; refine calls_by (hNm.out _))))
                refine wpQuiet_nil ?_
                intro w5 hw'
                obtain ⟨⟨_, hb5⟩, hw''⟩ := hw'
                subst hw''
                have HB5 := hide (HB4.out.trans hb5)
                have HBW5 := hide (HBW4.out.trans hb5)
                replace c3 := hb5.cell c3
                replace c4 := hb5.cell c4
                replace c5 := hb5.cell c5
                replace c6 := hb5.cell c6
                replace c7 := hb5.cell c7
                replace d2 := hb5.cell d2
                clear c1 c2 C1 C2 hne hb5 HB4 HBW4 hKy hNm
                cases l
                · have hcat : (⟨K.toArray⟩ ++ ⟨N.toArray⟩ : ByteArray) = ⟨(K ++ N).toArray⟩ := by apply ba_ext; simp
                  have HCAT := hide hcat
                  clear hcat
                  have hro5 := HRO.out.fwd HB5.out
                  go_wp2_with (first | (at_builtin; rw [HCAT.out]; refine ro_add (K ++ N) hro5 (by rw [HKS.out]; omega) rfl _ _ rfl rfl rfl ?_; intro g3 cap3 w6 hO6) | go_in)
                  refine ⟨⟨j + 1, by omega, by go_num, hide ⟨ks ++ [K ++ N], by simp [HKS.out], fun i2 hi2 hi2' => ?_, hO6⟩⟩, by simp [intOf]; omega⟩
                  by_cases hij : i2 = j
                  · subst hij
                    rw [List.getElem_append_right (by rw [HKS.out]; exact Nat.le_refl _)]
                    simp only [HKS.out, Nat.sub_self, List.getElem_cons_zero]
                    refine (HX.out _ 0).2 (Or.inr ⟨HE.out, i, HFD.out, Or.inr ⟨i, rfl, hil, Or.inr ⟨by rw [HT.out]; exact HKT.out, ?_, rfl⟩⟩⟩)
                    rw [HL.out, HCS.out]
                    simp
                  · have hik : i2 < ks.length := by have := HKS.out; simp at hi2'; omega
                    rw [List.getElem_append_left hik]
                    exact HCL.out i2 hi2 hik
                · have hcat : (⟨K.toArray⟩ ++ ⟨N.toArray⟩ ++ ⟨V.toArray⟩ : ByteArray) = ⟨(K ++ N ++ V).toArray⟩ := by apply ba_ext; simp
                  have HCAT := hide hcat
                  clear hcat
                  have hro5 := HRO.out.fwd HB5.out
                  go_wp2_with (first | (go_at_call 48; refine (hVy.out _).mono ?_; rintro e w6 ⟨rfl, hb6⟩; have hro6 := hro5.fwd hb6) | (at_builtin; rw [HCAT.out]; refine ro_add (K ++ N ++ V) hro6 (by rw [HKS.out]; omega) rfl _ _ rfl rfl rfl ?_; intro g3 cap3 w7 hO6) | go_in)
                  refine ⟨⟨j + 1, by omega, by go_num, hide ⟨ks ++ [K ++ N ++ V], by simp [HKS.out], fun i2 hi2 hi2' => ?_, hO6⟩⟩, by simp [intOf]; omega⟩
                  by_cases hij : i2 = j
                  · subst hij
                    rw [List.getElem_append_right (by rw [HKS.out]; exact Nat.le_refl _)]
                    simp only [HKS.out, Nat.sub_self, List.getElem_cons_zero]
                    refine (HX.out _ 0).2 (Or.inr ⟨HE.out, i, HFD.out, Or.inr ⟨i, rfl, hil, Or.inr ⟨by rw [HT.out]; exact HKT.out, ?_, rfl⟩⟩⟩)
                    rw [HL.out, HCS.out]
                    simp
                  · have hik : i2 < ks.length := by have := HKS.out; simp at hi2'; omega
                    rw [List.getElem_append_left hik]
                    exact HCL.out i2 hi2 hik
              · have hk' : (k != t) = true := by rw [bne_iff_ne]; exact hkt
                refine wp_region_bel hfol (by kernel_rfl) ?_
                repeat (go_big_quiet_step (fail))
                refine wpQuiet_nil ?_
                intro w4 hw'
                obtain ⟨⟨_, hb4⟩, hw''⟩ := hw'
                subst hw''
                clear C3 D1 hne
                go_wp2_with fail
                go_ret3
                exact ⟨_, j, 42, rfl, HBW2.out.trans hb4, Or.inr (Or.inr (Or.inl ⟨HW0.out, by rw [Hn.out]; omega, rfl, by omega, j, rfl, ⟨hjl, [], (HX.out [] 42).2 (Or.inr ⟨HE.out, i, HFD.out, Or.inr ⟨i, rfl, hil, Or.inl ⟨by rw [HT.out]; exact hkt, rfl⟩⟩⟩)⟩, fun i hi hij => ⟨ks[i]'(by rw [HKS.out]; exact hij), HCL.out i hi _⟩⟩))⟩
          · have hE' : (E != 0) = true := by rw [bne_iff_ne]; exact hE0
            go_wp2_with fail
            go_ret3
            exact ⟨_, j, E, rfl, HBW2.out, Or.inr (Or.inr (Or.inl ⟨HW0.out, by rw [Hn.out]; omega, rfl, hE0, j, rfl, ⟨hjl, [], (HX.out [] E).2 (Or.inl ⟨by rw [HE.out]; exact hE0, HE.out.symm⟩)⟩, fun i hi hij => ⟨ks[i]'(by rw [HKS.out]; exact hij), HCL.out i hi _⟩⟩))⟩
        · obtain rfl : j = n := by omega
          have hR := hide (rising_any ks _ wr (rs_of HRO.out.own) (by rw [HKS.out]; omega))
          go_wp2_with (first | (go_at_call 49; refine hR.out.mono ?_; rintro e w2 ⟨v, l, rfl, hv, hb, hl, hm⟩) | go_in)
          go_ret3
          exact ⟨v, j, 0, rfl, HRO.out.bel.trans hb, Or.inr (Or.inr (Or.inr ⟨HW0.out, by rw [Hn.out]; omega, by rw [Hn.out], rfl, ks, by rw [HKS.out, Hn.out], HCL.out, l, hv, hl, hm⟩))⟩
end Go.Proofs.YtgghcfmpfneehaaGreatDoor
namespace Go.Proofs.YtgghcfmpfneehaaGreatDoor
open Go.RowKit Go.Maps Go.Sort
/-- Nowhere wrong. -/
def good (L : List Sm) : Prop := ∀ j, j < L.length → ¬ badS L j
theorem good_step {L : List Sm} (h : good L) {k : Nat} (hk : k + 1 < L.length) : L[k].1.data.toList < L[k + 1].1.data.toList := by
  apply Decidable.byContradiction
  intro hn
  apply h (k + 1) hk
  refine Or.inr (Or.inr ⟨k, rfl, by omega, hk, ?_⟩)
  rw [bytesLess_eq, ByteArray.toList_eq, ByteArray.toList_eq]
  simpa using hn
theorem good_rise {L : List Sm} (h : good L) : ∀ (b a : Nat) (hb : b < L.length) (hab : a < b), (L[a]'(by omega)).1.data.toList < L[b].1.data.toList
  | 0, _, _, hab => by omega
  | b + 1, a, hb, hab => by
    have h1 := good_step h hb
    by_cases e : a = b
    · subst e; exact h1
    · exact List.lt_trans (good_rise h b a (by omega) (by omega)) h1
theorem good_eS {L : List Sm} (h : good L) {i : Nat} (hi : i < L.length) : eSm L[i] = 0 := by
  apply Decidable.byContradiction
  intro hn
  exact h i hi (Or.inr (Or.inl ⟨hi, hn⟩))
theorem good_one {L : List Sm} (h : good L) {i j : Nat} (hi : i < L.length) (hj : j < L.length) (e : L[i].1 = L[j].1) : i = j := by
  rcases Nat.lt_trichotomy i j with h1 | h1 | h1
  · have := good_rise h j i hj h1; rw [e] at this; exact absurd this (List.lt_irrefl _)
  · exact h1
  · have := good_rise h i j hi h1; rw [e] at this; exact absurd this (List.lt_irrefl _)
theorem cS_zero {S : Sm} {q : ByteArray} : cS S q = 0 ↔ S.1 = q := by
  unfold cS
  rw [cmpB_eq]
  exact ⟨fun h => ba_ext h, fun h => by rw [h]⟩
theorem eFm_of {S : Sm} {u : Int} {q : ByteArray} {k : Int} {b : Bool} {n : Int} {s : ByteArray} {v : Int} (h1 : eSm S = 0) (h2 : eT u q k b n s v = 0) (h3 : S.1 = q) : eFm S u q k b n s v = if k = S.2.1 then 0 else 42 := by
  unfold eFm eF
  unfold eSm at h1
  rw [h1, h2, h3]
  by_cases hk : k = S.2.1
  · simp [fstE, eB, hk]
  · simp [fstE, eB, hk]
theorem none_found {L : List Sm} (h : good L) {q : ByteArray} {i : Nat} (hb : bsR L q i false) {j : Nat} (hj : j < L.length) : L[j].1 ≠ q := by
  obtain ⟨_, h1, h2, h3⟩ := hb
  intro e
  rcases Nat.lt_trichotomy j i with hlt | heq | hgt
  · obtain ⟨k, rfl⟩ : ∃ k, i = k + 1 := ⟨i - 1, by omega⟩
    have hk : k < L.length := by omega
    have h4 := h1 k rfl hk
    unfold cS at h4
    rw [cmpB_lt', ← e] at h4
    by_cases hjk : j = k
    · subst hjk; exact List.lt_irrefl _ h4
    · exact List.lt_irrefl _ (List.lt_trans h4 (good_rise h k j hk (by omega)))
  · subst heq
    have := h3.2 ⟨hj, cS_zero.2 e⟩
    cases this
  · have hi : i < L.length := by omega
    have h4 := good_rise h j i hj hgt
    rw [e] at h4
    have h5 := h2 hi
    have h6 : cS L[i] q < 0 := by unfold cS; rw [cmpB_lt']; exact h4
    omega
theorem clm_agree {L : List Sm} (hg : good L) {u : Nat} {q : ByteArray} {k : Int} {b : Bool} {n : Int} {s : ByteArray} {v : Int} {x x' : List UInt8} {e e' : Int} (h : clmR L u q k b n s v x e) (h' : dclR L u q k b n s v x' e') : e = e' ∧ (e = 0 → x = x') := by
  rcases h with ⟨h0, _, he⟩ | ⟨h0, i, f, hb, hc⟩
  · rcases h' with ⟨_, he'⟩ | ⟨h0', _⟩
    · exact ⟨by rw [he, he'], fun hz => absurd (he ▸ hz) h0⟩
    · exact absurd h0' h0
  · rcases h' with ⟨h0', _⟩ | ⟨_, z, hfd, hd⟩
    · exact absurd h0 h0'
    · rcases hc with ⟨rfl, _, he⟩ | ⟨rfl, hi, hc⟩
      · have hz : z = -1 := by
          rcases hfd with ⟨j, _, hj, hq, _⟩ | ⟨h, _⟩
          · exact absurd hq (none_found hg hb hj)
          · exact h
        rcases hd with ⟨_, he'⟩ | ⟨j, hj, _⟩
        · exact ⟨by rw [he, he'], fun h => by omega⟩
        · omega
      · obtain ⟨hi', hcs⟩ := hb.2.2.2.1 rfl
        have hq := cS_zero.1 hcs
        rcases hd with ⟨hz, _⟩ | ⟨j, hz, hj, hd⟩
        · rcases hfd with ⟨j, hj, _⟩ | ⟨_, hno⟩
          · omega
          · exact absurd hq (hno i hi)
        · have hij : j = i := by
            rcases hfd with ⟨j', hj', hjl, hjq, _⟩ | ⟨h, _⟩
            · obtain rfl : j = j' := by omega
              exact good_one hg hjl hi (hjq.trans hq.symm)
            · omega
          subst hij
          have hF := eFm_of (good_eS hg hi) h0 hq
          rcases hd with ⟨hk, he'⟩ | ⟨hk, hx', he'⟩
          · rw [if_neg hk] at hF
            rcases hc with ⟨_, _, he⟩ | ⟨hz, _⟩
            · exact ⟨by rw [he, he', hF], fun h => by rw [he, hF] at h; omega⟩
            · rw [hF] at hz; omega
          · rw [if_pos hk] at hF
            rcases hc with ⟨hz, _⟩ | ⟨_, hx, he⟩
            · exact absurd hF hz
            · exact ⟨by rw [he, he'], fun _ => by rw [hx, hx']⟩
theorem first_one {L : List Sm} {i j : Nat} (hi : badS L i) (hi' : ∀ k, k < i → ¬ badS L k) (hj : badS L j) (hj' : ∀ k, k < j → ¬ badS L k) : i = j := by
  rcases Nat.lt_trichotomy i j with h | h | h
  · exact absurd hi (hj' i h)
  · exact h
  · exact absurd hj (hi' j h)
theorem wr_good {L : List Sm} (h : wrR L (-1)) : good L := by
  rcases h with ⟨i, h, _⟩ | ⟨_, h⟩
  · omega
  · exact h
theorem ws_good {L : List Sm} (h : wsR L 0 false) : good L := by
  rcases h with ⟨h, _⟩ | ⟨_, _, h⟩
  · cases h
  · exact h
/-- The answers are one: the places, the faults, the rows. -/
theorem answers_one {L : List Sm} {X : List Wm} {w w1 w2 w3 : World} {e e2 : Ending} (h : clsR L X w e w1) (h2 : dcsR L X w2 e2 w3) :
    ∃ (r r' : Value) (z er : Int) (zs : List (List UInt8)), e = .returned (.tuple #[r, .int .i64 z, .int .i64 er]) ∧ e2 = .returned (.tuple #[r', .int .i64 z, .int .i64 er]) ∧ Bel w w1 ∧ Bel w2 w3 ∧ RS w1 r zs ∧ RS w3 r' zs ∧ zs.length ≤ maxLen := by
  have nil : ∀ W, RS W (.slice none 0 0) [] := fun W => ⟨none, 0, rfl, Nat.le_refl _, fun h => absurd rfl h⟩
  obtain ⟨r, at', er, rfl, hb, h⟩ := h
  obtain ⟨r', z, er', rfl, hb2, h2⟩ := h2
  rcases h with ⟨hw, rfl, rfl⟩ | ⟨hw, hl, rfl, rfl, rfl⟩ | ⟨hw, hl, rfl, hne, ⟨hat, t, ht⟩, hall⟩ | ⟨hw, hl, rfl, rfl, ks, hks, hcl, g, cap, zs, rfl, hp, hm, hrw⟩
  · rcases hw with ⟨_, hat, hbad, hno⟩ | ⟨h, _⟩
    · rcases h2 with ⟨y, hy, hy0, rfl, rfl, rfl⟩ | ⟨hw2, _⟩ | ⟨hw2, _⟩ | ⟨hw2, _⟩
      · rcases hy with ⟨i, rfl, hi, hib, hin⟩ | ⟨h, _⟩
        · obtain rfl := first_one hbad hno hib hin
          exact ⟨_, _, _, _, [], rfl, rfl, hb, hb2, nil _, nil _, by simp⟩
        · omega
      · exact absurd hbad (wr_good hw2 _ hat)
      · exact absurd hbad (wr_good hw2 _ hat)
      · exact absurd hbad (wr_good hw2 _ hat)
    · cases h
  all_goals have hgd := ws_good hw
  all_goals
    rcases h2 with ⟨y, hy, hy0, _⟩ | ⟨_, hl2, rfl, rfl, rfl⟩ | ⟨_, hl2, rfl, hne2, at2, rfl, ⟨hat2, t2, ht2⟩, hall2⟩ | ⟨_, hl2, rfl, rfl, ks2, hks2, hcl2, zs2, hrs2, hris2, hm2⟩
  all_goals first
    | (exfalso; rcases hy with ⟨i, rfl, hi, hib, hin⟩ | ⟨h, _⟩
       · exact hgd i hi hib
       · omega)
    | skip
  · exact ⟨_, _, _, _, [], rfl, rfl, hb, hb2, nil _, nil _, by simp⟩
  · omega
  · omega
  · omega
  · have hat' : at' = at2 := by
      rcases Nat.lt_trichotomy at' at2 with h | h | h
      · obtain ⟨t3, h3⟩ := hall2 at' hat h
        exact absurd (clm_agree hgd ht h3).1 hne
      · exact h
      · obtain ⟨t3, h3⟩ := hall at2 hat2 h
        exact absurd (clm_agree hgd h3 ht2).1.symm hne2
    subst hat'
    obtain rfl := (clm_agree hgd ht ht2).1
    exact ⟨_, _, _, _, [], rfl, rfl, hb, hb2, nil _, nil _, by simp⟩
  · exfalso
    exact hne (clm_agree hgd ht (hcl2 at' hat (by omega))).1
  · omega
  · exfalso
    exact hne2 (clm_agree hgd (hcl at2 hat2 (by omega)) ht2).1.symm
  · have hkk : ks = ks2 := by
      apply List.ext_getElem (by omega)
      intro j h1 h3
      exact (clm_agree hgd (hcl j (by omega) h1) (hcl2 j (by omega) h3)).2 rfl
    subst hkk
    obtain rfl := ris_ext zs zs2 hp hris2 (fun x => (hm x).trans (hm2 x).symm)
    refine ⟨_, _, _, _, zs, rfl, rfl, hb, hb2, rs_of hrw, hrs2, ?_⟩
    rcases hrw.2 with ⟨h, _⟩ | ⟨_, c2, _, h, _, _, h1, h3, _⟩
    · cases h
    · omega
end Go.Proofs.YtgghcfmpfneehaaGreatDoor
