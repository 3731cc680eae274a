/- Read of the document gives what the program's gives. A message's bytes, and the message of any bytes: the law. -/
import Derived.Test.YtgofdkheffoilaaGreatDre
import Derived.Test.YtgofdkheffoilaaGreatDmm
import Derived.Test.YtgofdkheffoilaaGreatMrc
namespace Go.Proofs.YtgofdkheffoilaaGreat
open Go.RowKit Go.Maps
theorem readD_any (s : ByteArray) (hs : s.size ≤ 1048576) (W : World) : Calls Tryz.prog 8 #[.string s] W fun e w' => ∃ x, e = .returned (.tuple #[.agg (mg (rdP s) x), .int .i64 (if okP s then 0 else 2)]) ∧ Gr W.heap.size w' (rdP s) x ∧ Bel W w' := by
  rw [rd_same s hs, ok_same s hs]
  have q := qmsg_nn s hs
  have ee : ∀ x : GX, x.ls.map (·.1) = (qmsg s false).1.ents → ∀ y ∈ x.ls, y.1.m.length ≤ 1048576 := fun x h y hy => q.2.2.2 y.1 (by rw [← h]; exact List.mem_map.2 ⟨y, hy, rfl⟩)
  exact refRead_any s hs W (fun W' x base g => maymsgD_any g.gw q.1 q.2.1 q.2.2.1 (ee x g.e)) (fun hm W' x base g => bytesD_yes g.gw q.1 hm)
/-- What is read is of bounded length. -/
theorem rdP_facts (s : ByteArray) : (rdP s).ents.length ≤ 1048576 ∧ (rdP s).mem.length ≤ 1048576 ∧ ∀ e ∈ (rdP s).ents, e.m.length ≤ 1048576 := by
  have f := pmsg_facts s false
  unfold rdP
  split
  · exact ⟨by omega, by omega, fun e he => by have := (f.2.2.2 e he).1; omega⟩
  · exact ⟨by simp [gz], by simp [gz], fun e he => by simp [gz] at he⟩
end Go.Proofs.YtgofdkheffoilaaGreat
namespace Go.Proofs.YtgofdkheffoilaaGreat
open Go.RowKit Go.Maps
set_option maxRecDepth 100000 in
set_option maxHeartbeats 8000000 in
theorem vb_big {W : World} {m : GM} {x : GX} {s : ByteArray} (h : 60 < m.ents.length) : Calls Tryz.prog 3 #[.agg (mg m x), .string s] W fun e w' => e = .returned (.bool true) ∧ Bel W w' := by
  have hd : decide ((60 : Int) < (m.ents.length : Int)) = true := decide_eq_true (by omega)
  clear h
  go_enter Tryz.func3, Tryz.ntmps3
  go_wp2_with (first
    | go_skip
    | (refine bx_box rfl 27 (.tmp 0) rfl (mg m x) rfl ?_; intro b w0 hr0 hs0 hb0; have c9 := (Mb2.of hr0).c9; have HL := hide hb0; clear hr0 hs0 hb0)
    | (go_at_call 5; refine alive_any.mono ?_; rintro e w1 ⟨rfl, hb1⟩; replace HL := hide ((unhide HL).trans hb1); clear hb1)
    | go_guarded)
  go_ret
  exact ⟨rfl, unhide HL⟩
set_option maxRecDepth 100000 in
set_option maxHeartbeats 8000000 in
theorem vb_long {W : World} {m : GM} {x : GX} {s : ByteArray} (h : ¬ 60 < m.ents.length) (h2 : 65536 < s.size) : Calls Tryz.prog 3 #[.agg (mg m x), .string s] W fun e w' => e = .returned (.bool true) ∧ Bel W w' := by
  have hd : decide ((60 : Int) < (m.ents.length : Int)) = false := decide_eq_false (by omega)
  have hd2 : decide ((65536 : Int) < (s.size : Int)) = true := decide_eq_true (by omega)
  clear h h2
  go_enter Tryz.func3, Tryz.ntmps3
  go_wp2_with (first
    | go_skip
    | (refine bx_box rfl 27 (.tmp 0) rfl (mg m x) rfl ?_; intro b w0 hr0 hs0 hb0; have c9 := (Mb2.of hr0).c9; have HL := hide hb0; clear hr0 hs0 hb0)
    | (go_at_call 5; refine alive_any.mono ?_; rintro e w1 ⟨rfl, hb1⟩; replace HL := hide ((unhide HL).trans hb1); clear hb1)
    | go_guarded)
  go_ret
  exact ⟨rfl, unhide HL⟩
set_option maxRecDepth 100000 in
set_option maxHeartbeats 16000000 in
theorem vb_no {W : World} {m : GM} {x : GX} {s : ByteArray} (a : Am W m x) (h : ¬ 60 < m.ents.length) (h2 : ¬ 65536 < s.size) (hmay : mayMB m = false) : Calls Tryz.prog 3 #[.agg (mg m x), .string s] W fun e w' => e = .returned (.bool true) ∧ Bel W w' := by
  have hd : decide ((60 : Int) < (m.ents.length : Int)) = false := decide_eq_false (by omega)
  have hd2 : decide ((65536 : Int) < (s.size : Int)) = false := decide_eq_false (by omega)
  have HPr : Hid (∀ W', Calls Tryz.prog 7 #[.string s] W' fun e w' => ∃ x, e = .returned (.tuple #[.agg (mg (rdP s) x), .int .i64 (if okP s then 0 else 2)]) ∧ Gr W'.heap.size w' (rdP s) x ∧ Bel W' w') := hide (fun W' => read_any s (by omega) W')
  have HDr : Hid (∀ W', Calls Tryz.prog 8 #[.string s] W' fun e w' => ∃ x, e = .returned (.tuple #[.agg (mg (rdP s) x), .int .i64 (if okP s then 0 else 2)]) ∧ Gr W'.heap.size w' (rdP s) x ∧ Bel W' w') := hide (fun W' => readD_any s (by omega) W')
  have HSm : Hid (∀ W' y z, Gw W' (rdP s) y → Gw W' (rdP s) z → Calls Tryz.prog 9 #[.agg (mg (rdP s) y), .agg (mg (rdP s) z)] W' fun e w' => e = .returned (.bool true) ∧ Bel W' w') := hide (fun W' y z g g2 => same_equal g g2 (rdP_facts s).1 (rdP_facts s).2.1 (rdP_facts s).2.2)
  have HMm : Hid (∀ W', Bel W W' → Calls Tryz.prog 10 #[.agg (mg m x)] W' fun e w' => e = .returned (.bool false) ∧ Bel W' w') := hide (fun W' hb => by have z := maymsgD_any (a.g.bel hb) a.n a.el a.ml a.ee; rwa [hmay] at z)
  have HBy : Hid (∀ W', Bel W W' → Calls Tryz.prog 6 #[.agg (mg m x)] W' fun e w' => e = .returned (.tuple #[.string ⟨#[]⟩, .int .i64 2]) ∧ Bel W' w') := hide (fun W' hb => bytesP_no (a.g.bel hb) a.el a.ml a.ee hmay)
  clear h h2 hmay a
  generalize rdP s = r at *
  generalize (if okP s then (0 : Int) else 2) = q at *
  go_enter Tryz.func3, Tryz.ntmps3
  go_wp2_with (first
    | go_skip
    | (refine bx_box rfl 27 (.tmp 0) rfl (mg m x) rfl ?_; intro b w0 hr0 hs0 hb0; have c9 := (Mb2.of hr0).c9; have HL := hide hb0; have HR := hide hr0; have HZb := hide (Nat.le_of_eq hs0); clear hr0 hs0 hb0)
    | (refine bx_ld rfl 27 (.tmp 2) rfl b rfl _ _ (unhide HR) Tryz.underlying27 (szM _ _) ?_)
    | (go_at_call 6; refine ((unhide HBy) _ (unhide HL)).mono ?_; rintro e w1 ⟨rfl, hb1⟩; replace HR := hide (hb1.row (unhide HR)); replace HL := hide ((unhide HL).trans hb1); clear hb1 c9 HBy)
    | (go_at_call 7; refine ((unhide HPr) _).mono ?_; rintro e w1 ⟨y, rfl, hg1, hb1⟩; replace HR := hide (hb1.row (unhide HR)); replace HL := hide ((unhide HL).trans hb1); have HG := hide (hg1.mono (Nat.zero_le _)); clear hb1 hg1 HPr)
    | (refine bx_new rfl 27 rfl _ zeroM ?_; intro b9 w2 hr2 hs2 hb2; have HN9 : Hid (b ≠ b9 ∧ W.heap.size ≤ b9 ∧ b7 ≠ b9) := hide ⟨fun e => by have := lt_of_some (unhide HR); omega, by have := (unhide HL).size; omega, fun e => by have := lt_of_some (unhide H7); omega⟩; replace HR := hide (hb2.row (unhide HR)); replace HL := hide ((unhide HL).trans hb2); replace HG := hide ((unhide HG).bel hb2); replace H7 := hide (hb2.row (unhide H7)); replace HK := hide ((unhide HK).bel hb2); have H9 := hide hr2; clear hr2 hs2 hb2)
    | (refine bx_new rfl 27 rfl _ zeroM ?_; intro b7 w2 hr2 hs2 hb2; have HN7 : Hid (b ≠ b7 ∧ W.heap.size ≤ b7) := hide ⟨fun e => by have := lt_of_some (unhide HR); omega, by have := (unhide HL).size; omega⟩; replace HR := hide (hb2.row (unhide HR)); replace HL := hide ((unhide HL).trans hb2); replace HG := hide ((unhide HG).bel hb2); have H7 := hide hr2; clear hr2 hs2 hb2)
    | (refine bx_st rfl 27 (.tmp 7) (.tmp 29) rfl b7 (mg r y) _ rfl rfl (unhide H7) (szM _ _) rfl (mg_one _ _) ?_; intro w3 hr3 hc3; replace HG := hide ((unhide HG).bx ⟨_, unhide H7⟩ hc3); replace HR := hide (hc3.row (unhide HR) (unhide HN7).1); replace HL := hide (bel_off (unhide HL) hc3 (unhide HN7).2); replace H7 := hide hr3; clear hr3 hc3)
    | (go_at_call 8; refine ((unhide HDr) _).mono ?_; rintro e w1 ⟨z, rfl, hg1, hb1⟩; replace HR := hide (hb1.row (unhide HR)); replace HL := hide ((unhide HL).trans hb1); replace HG := hide ((unhide HG).bel hb1); replace H7 := hide (hb1.row (unhide H7)); have HK := hide (hg1.mono (Nat.zero_le _)); clear hb1 hg1 HDr)
    | (refine bx_st rfl 27 (.tmp 9) (.tmp 34) rfl b9 (mg r z) _ rfl rfl (unhide H9) (szM _ _) rfl (mg_one _ _) ?_; intro w3 hr3 hc3; replace HG := hide ((unhide HG).bx ⟨_, unhide H9⟩ hc3); replace HK := hide ((unhide HK).bx ⟨_, unhide H9⟩ hc3); replace HR := hide (hc3.row (unhide HR) (unhide HN9).1); replace H7 := hide (hc3.row (unhide H7) (unhide HN9).2.2); replace HL := hide (bel_off (unhide HL) hc3 (unhide HN9).2.1); replace H9 := hide hr3; clear hr3 hc3)
    | (refine bx_ld rfl 27 (.tmp 7) rfl b7 rfl _ _ (unhide H7) Tryz.underlying27 (szM _ _) ?_)
    | (refine bx_ld rfl 27 (.tmp 9) rfl b9 rfl _ _ (unhide H9) Tryz.underlying27 (szM _ _) ?_)
    | (go_at_call 9; refine ((unhide HSm) _ _ _ (unhide HG).gw (unhide HK).gw).mono ?_; rintro e w1 ⟨rfl, hb1⟩; replace HR := hide (hb1.row (unhide HR)); replace HL := hide ((unhide HL).trans hb1); replace H7 := hide (hb1.row (unhide H7)); clear hb1 HSm HK HG H9 HN9)
    | (go_at_call 10; refine ((unhide HMm) _ (unhide HL)).mono ?_; rintro e w1 ⟨rfl, hb1⟩; replace HR := hide (hb1.row (unhide HR)); replace HL := hide ((unhide HL).trans hb1); replace H7 := hide (hb1.row (unhide H7)); clear hb1 HMm)
    | (go_at_call 5; refine alive_any.mono ?_; rintro e w1 ⟨rfl, hb1⟩; replace HL := hide ((unhide HL).trans hb1); clear hb1)
    | go_guarded)
  go_ret
  exact ⟨rfl, unhide HL⟩
set_option maxRecDepth 100000 in
set_option maxHeartbeats 16000000 in
theorem vb_yes {W : World} {m : GM} {x : GX} {s : ByteArray} (a : Am W m x) (h : ¬ 60 < m.ents.length) (h2 : ¬ 65536 < s.size) (hmay : mayMB m = true) : Calls Tryz.prog 3 #[.agg (mg m x), .string s] W fun e w' => e = .returned (.bool true) ∧ Bel W w' := by
  have hd : decide ((60 : Int) < (m.ents.length : Int)) = false := decide_eq_false (by omega)
  have hd2 : decide ((65536 : Int) < (s.size : Int)) = false := decide_eq_false (by omega)
  have HPr : Hid (∀ W', Calls Tryz.prog 7 #[.string s] W' fun e w' => ∃ x, e = .returned (.tuple #[.agg (mg (rdP s) x), .int .i64 (if okP s then 0 else 2)]) ∧ Gr W'.heap.size w' (rdP s) x ∧ Bel W' w') := hide (fun W' => read_any s (by omega) W')
  have HDr : Hid (∀ W', Calls Tryz.prog 8 #[.string s] W' fun e w' => ∃ x, e = .returned (.tuple #[.agg (mg (rdP s) x), .int .i64 (if okP s then 0 else 2)]) ∧ Gr W'.heap.size w' (rdP s) x ∧ Bel W' w') := hide (fun W' => readD_any s (by omega) W')
  have HSm : Hid (∀ W' y z, Gw W' (rdP s) y → Gw W' (rdP s) z → Calls Tryz.prog 9 #[.agg (mg (rdP s) y), .agg (mg (rdP s) z)] W' fun e w' => e = .returned (.bool true) ∧ Bel W' w') := hide (fun W' y z g g2 => same_equal g g2 (rdP_facts s).1 (rdP_facts s).2.1 (rdP_facts s).2.2)
  have HMm : Hid (∀ W', Bel W W' → Calls Tryz.prog 10 #[.agg (mg m x)] W' fun e w' => e = .returned (.bool true) ∧ Bel W' w') := hide (fun W' hb => by have z := maymsgD_any (a.g.bel hb) a.n a.el a.ml a.ee; rwa [hmay] at z)
  have HBy : Hid (∀ W', Bel W W' → Calls Tryz.prog 6 #[.agg (mg m x)] W' fun e w' => e = .returned (.tuple #[.string ⟨(msgb m).toArray⟩, .int .i64 0]) ∧ Bel W' w') := hide (fun W' hb => bytesP_yes (a.g.bel hb) a.n a.ee hmay)
  have HDb : Hid (∀ W', Bel W W' → Calls Tryz.prog 11 #[.agg (mg m x)] W' fun e w' => e = .returned (.string ⟨(msgb m).toArray⟩) ∧ Bel W' w') := hide (fun W' hb => bytesD_yes (a.g.bel hb) a.n hmay)
  have HPs : Hid (∀ W', Calls Tryz.prog 7 #[.string ⟨(msgb m).toArray⟩] W' fun e w' => ∃ x, e = .returned (.tuple #[.agg (mg m x), .int .i64 0]) ∧ Gr W'.heap.size w' m x ∧ Bel W' w') := hide (fun W' => by
    have z := read_any ⟨(msgb m).toArray⟩ (msgb_size a.n hmay) W'
    rw [(read_back m a.n hmay).1, (read_back m a.n hmay).2] at z
    exact z)
  have HSe : Hid (∀ W' y, Bel W W' → Gw W' m y → Calls Tryz.prog 9 #[.agg (mg m y), .agg (mg m x)] W' fun e w' => e = .returned (.bool true) ∧ Bel W' w') := hide (fun W' y hb g => same_equal g (a.g.bel hb) a.el a.ml (fun e he => by
    rw [← a.g.e] at he
    obtain ⟨q, hq, rfl⟩ := List.mem_map.1 he
    exact a.ee q hq))
  generalize (⟨(msgb m).toArray⟩ : ByteArray) = bs at *
  clear h h2 hmay a
  generalize rdP s = r at *
  generalize (if okP s then (0 : Int) else 2) = q at *
  go_enter Tryz.func3, Tryz.ntmps3
  go_wp2_with (first
    | go_skip
    | (refine bx_box rfl 27 (.tmp 0) rfl (mg m x) rfl ?_; intro b w0 hr0 hs0 hb0; have c9 := (Mb2.of hr0).c9; have HL := hide hb0; have HR := hide hr0; have HZb := hide (Nat.le_of_eq hs0); clear hr0 hs0 hb0)
    | (refine bx_ld rfl 27 (.tmp 2) rfl b rfl _ _ (unhide HR) Tryz.underlying27 (szM _ _) ?_)
    | (go_at_call 6; refine ((unhide HBy) _ (unhide HL)).mono ?_; rintro e w1 ⟨rfl, hb1⟩; replace HR := hide (hb1.row (unhide HR)); replace HL := hide ((unhide HL).trans hb1); clear hb1 c9 HBy)
    | (go_at_call 7; refine ((unhide HPr) _).mono ?_; rintro e w1 ⟨y, rfl, hg1, hb1⟩; replace HR := hide (hb1.row (unhide HR)); replace HL := hide ((unhide HL).trans hb1); have HG := hide (hg1.mono (Nat.zero_le _)); clear hb1 hg1 HPr)
    | (refine bx_new rfl 27 rfl _ zeroM ?_; intro b9 w2 hr2 hs2 hb2; have HN9 : Hid (b ≠ b9 ∧ W.heap.size ≤ b9 ∧ b7 ≠ b9) := hide ⟨fun e => by have := lt_of_some (unhide HR); omega, by have := (unhide HL).size; omega, fun e => by have := lt_of_some (unhide H7); omega⟩; replace HR := hide (hb2.row (unhide HR)); replace HL := hide ((unhide HL).trans hb2); replace HG := hide ((unhide HG).bel hb2); replace H7 := hide (hb2.row (unhide H7)); replace HK := hide ((unhide HK).bel hb2); have H9 := hide hr2; clear hr2 hs2 hb2)
    | (refine bx_new rfl 27 rfl _ zeroM ?_; intro b7 w2 hr2 hs2 hb2; have HN7 : Hid (b ≠ b7 ∧ W.heap.size ≤ b7) := hide ⟨fun e => by have := lt_of_some (unhide HR); omega, by have := (unhide HL).size; omega⟩; replace HR := hide (hb2.row (unhide HR)); replace HL := hide ((unhide HL).trans hb2); replace HG := hide ((unhide HG).bel hb2); have H7 := hide hr2; clear hr2 hs2 hb2)
    | (refine bx_st rfl 27 (.tmp 7) (.tmp 29) rfl b7 (mg r y) _ rfl rfl (unhide H7) (szM _ _) rfl (mg_one _ _) ?_; intro w3 hr3 hc3; replace HG := hide ((unhide HG).bx ⟨_, unhide H7⟩ hc3); replace HR := hide (hc3.row (unhide HR) (unhide HN7).1); replace HL := hide (bel_off (unhide HL) hc3 (unhide HN7).2); replace H7 := hide hr3; clear hr3 hc3)
    | (go_at_call 8; refine ((unhide HDr) _).mono ?_; rintro e w1 ⟨z, rfl, hg1, hb1⟩; replace HR := hide (hb1.row (unhide HR)); replace HL := hide ((unhide HL).trans hb1); replace HG := hide ((unhide HG).bel hb1); replace H7 := hide (hb1.row (unhide H7)); have HK := hide (hg1.mono (Nat.zero_le _)); clear hb1 hg1 HDr)
    | (refine bx_st rfl 27 (.tmp 9) (.tmp 34) rfl b9 (mg r z) _ rfl rfl (unhide H9) (szM _ _) rfl (mg_one _ _) ?_; intro w3 hr3 hc3; replace HG := hide ((unhide HG).bx ⟨_, unhide H9⟩ hc3); replace HK := hide ((unhide HK).bx ⟨_, unhide H9⟩ hc3); replace HR := hide (hc3.row (unhide HR) (unhide HN9).1); replace H7 := hide (hc3.row (unhide H7) (unhide HN9).2.2); replace HL := hide (bel_off (unhide HL) hc3 (unhide HN9).2.1); replace H9 := hide hr3; clear hr3 hc3)
    | (refine bx_ld rfl 27 (.tmp 7) rfl b7 rfl _ _ (unhide H7) Tryz.underlying27 (szM _ _) ?_)
    | (refine bx_ld rfl 27 (.tmp 9) rfl b9 rfl _ _ (unhide H9) Tryz.underlying27 (szM _ _) ?_)
    | (go_at_call 9; refine ((unhide HSm) _ _ _ (unhide HG).gw (unhide HK).gw).mono ?_; rintro e w1 ⟨rfl, hb1⟩; replace HR := hide (hb1.row (unhide HR)); replace HL := hide ((unhide HL).trans hb1); replace H7 := hide (hb1.row (unhide H7)); clear hb1 HSm HK HG H9 HN9)
    | (go_at_call 10; refine ((unhide HMm) _ (unhide HL)).mono ?_; rintro e w1 ⟨rfl, hb1⟩; replace HR := hide (hb1.row (unhide HR)); replace HL := hide ((unhide HL).trans hb1); replace H7 := hide (hb1.row (unhide H7)); clear hb1 HMm)
    | (go_at_call 7; refine ((unhide HPs) _).mono ?_; rintro e w1 ⟨y2, rfl, hg1, hb1⟩; replace HR := hide (hb1.row (unhide HR)); replace HL := hide ((unhide HL).trans hb1); replace H7 := hide (hb1.row (unhide H7)); have HG := hide (hg1.mono (Nat.zero_le _)); clear hb1 hg1 HPs)
    | (refine bx_st rfl 27 (.tmp 7) (.tmp 60) rfl b7 (mg m y2) _ rfl rfl (unhide H7) (szM _ _) rfl (mg_one _ _) ?_; intro w3 hr3 hc3; replace HG := hide ((unhide HG).bx ⟨_, unhide H7⟩ hc3); replace HR := hide (hc3.row (unhide HR) (unhide HN7).1); replace HL := hide (bel_off (unhide HL) hc3 (unhide HN7).2); replace H7 := hide hr3; clear hr3 hc3)
    | (go_at_call 11; refine ((unhide HDb) _ (unhide HL)).mono ?_; rintro e w1 ⟨rfl, hb1⟩; replace HR := hide (hb1.row (unhide HR)); replace HL := hide ((unhide HL).trans hb1); replace H7 := hide (hb1.row (unhide H7)); replace HG := hide ((unhide HG).bel hb1); clear hb1 HDb)
    | (refine ld_w 27 (.tmp 7) (by exact rfl) b7 (by exact rfl) (by exact rfl) _ _ (unhide H7) Tryz.underlying27 (szM _ _) ?_)
    | (refine ld_w 27 (.tmp 2) (by exact rfl) b (by exact rfl) (by exact rfl) _ _ (unhide HR) Tryz.underlying27 (szM _ _) ?_)
    | (go_at_call 9; refine ((unhide HSe) _ _ (unhide HL) (unhide HG).gw).mono ?_; rintro e w1 ⟨rfl, hb1⟩; replace HR := hide (hb1.row (unhide HR)); replace HL := hide ((unhide HL).trans hb1); replace H7 := hide (hb1.row (unhide H7)); clear hb1)
    | (go_at_call 5; refine alive_any.mono ?_; rintro e w1 ⟨rfl, hb1⟩; replace HL := hide ((unhide HL).trans hb1); clear hb1)
    | go_guarded)
  go_ret
  exact ⟨rfl, unhide HL⟩
/-- Any message's bytes, and the message of any bytes. -/
theorem voteBytes_any {W : World} {m : GM} {x : GX} (a : Am W m x) (s : ByteArray) : Calls Tryz.prog 3 #[.agg (mg m x), .string s] W fun e w' => e = .returned (.bool true) ∧ Bel W w' := by
  by_cases h : 60 < m.ents.length
  · exact vb_big h
  by_cases h2 : 65536 < s.size
  · exact vb_long h h2
  cases hm : mayMB m with
  | false => exact vb_no a h h2 hm
  | true => exact vb_yes a h h2 hm
end Go.Proofs.YtgofdkheffoilaaGreat
