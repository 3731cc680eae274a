/- A leader's beat. -/
import Derived.Test.YthipgcojbhcdgaaGreatLms
import Derived.Test.YthipgcojbhcdgaaGreatEle
import Derived.Test.YthipgcojbhcdgaaGreatNlmo
namespace Go.Proofs.YthipgcojbhcdgaaGreat
open Go.RowKit Go.Maps Go.Sort
/-- A row of messages whose entries lie in memory. -/
def Mr (base : Nat) (w : World) (v : Value) (ms : List QM) : Prop := ∃ qs : List (QM × Option Addr × Nat), qs.map (·.1) = ms ∧ E27q.O base w v qs ∧ ∀ q ∈ qs, Sl E69 w q.2.1 q.1.ents ∧ q.1.ents.length ≤ q.2.2
section
variable {base : Nat} {w w' : World} {v : Value} {ms : List QM}
theorem Mr.bel (h : Mr base w v ms) (hb : Bel w w') : Mr base w' v ms := by
  obtain ⟨qs, h1, h2, h3⟩ := h
  exact ⟨qs, h1, h2.bel hb, fun q hq => ⟨(h3 q hq).1.bel hb, (h3 q hq).2⟩⟩
theorem Mr.mono {base' : Nat} (h : Mr base w v ms) (hb : base' ≤ base) : Mr base' w v ms := by
  obtain ⟨qs, h1, h2, h3⟩ := h
  exact ⟨qs, h1, h2.mono hb, h3⟩
theorem Mr.nil (base : Nat) (w : World) : Mr base w (.slice none 0 0) [] := ⟨[], rfl, El.O.nil _ _, fun q hq => by cases hq⟩
theorem Mr.len (h : Mr base w v ms) : ∃ a c, v = .slice a ms.length c := by
  obtain ⟨qs, h1, h2, h3⟩ := h
  obtain ⟨a, c, g, e, _⟩ := h2.shape
  exact ⟨a, c, by rw [e, ← h1, List.length_map]⟩
end
/-- Where a message's entries are owned. -/
def Mo (base : Nat) (w : World) (v : Value) (ms : List QM) : Prop := ∃ qs : List (QM × Option Addr × Nat), qs.map (·.1) = ms ∧ E27q.O base w v qs ∧ ∀ q ∈ qs, E69.O base w (.slice q.2.1 q.1.ents.length q.2.2) q.1.ents ∧ (q.1.kind < 3 → q.2 = (none, 0))
section
variable {base : Nat} {w w' : World} {v v' : Value} {ms : List QM}
theorem Mo.mr (h : Mo base w v ms) : Mr base w v ms := by
  obtain ⟨qs, h1, h2, h3⟩ := h
  exact ⟨qs, h1, h2, fun q hq => ⟨(Sl.of (h3 q hq).1).1, (Sl.of (h3 q hq).1).2.2⟩⟩
theorem Mo.bel (h : Mo base w v ms) (hb : Bel w w') : Mo base w' v ms := by
  obtain ⟨qs, h1, h2, h3⟩ := h
  exact ⟨qs, h1, h2.bel hb, fun q hq => ⟨(h3 q hq).1.bel hb, (h3 q hq).2⟩⟩
theorem Mo.nil (base : Nat) (w : World) : Mo base w (.slice none 0 0) [] := ⟨[], rfl, El.O.nil _ _, fun q hq => by cases hq⟩
end
theorem Ty.grown {W w w' : World} {b b2 n : Nat} {s : PP} {x : Px} {v : Value} {qs : List (QM × Option Addr × Nat)} (h : Ty W w b b2 n s x) (hO : E27q.O W.heap.size w v qs) (hg : w.grownBy w' v.ownBlock) : Ty W w' b b2 n s x := by
  obtain ⟨s2, x2, n2, h2⟩ := h.row2
  exact ⟨row_grown h.row hO hg (by decide), (((h.bel.ch (fun i => W.heap.size ≤ i)).grown hg (fun k hk => Or.inl (hO.lt hk).1)).below (Nat.le_refl _) (fun _ hi => hi)), ⟨s2, x2, n2, row_grown h2 hO hg (by decide)⟩, h.ge, h.ge2, h.ne⟩
/-- How beat's loop stands. -/
def BtR (W : World) (b b2 n : Nat) (s : PP) (x : Px) (no : Nat) (vi vu : Value) (wr : World) : Prop := ∃ (k : Nat) (a : Option Addr) (c : Nat) (qs : List (QM × Option Addr × Nat)), k ≤ no ∧ vi = .int .i64 k ∧ vu = .slice a qs.length c ∧ Hid (qs.map (·.1) = (s.fol.take k).map s.msg) ∧ Hid (Ty W wr b b2 n s x ∧ E27q.O W.heap.size wr (.slice a qs.length c) qs ∧ ∀ q ∈ qs, E69.O W.heap.size wr (.slice q.2.1 q.1.ents.length q.2.2) q.1.ents)
set_option maxRecDepth 100000 in
set_option maxHeartbeats 4000000 in
theorem beat_any {W : World} {n T G : Nat} {s : PP} {x : Px} (h : Pq W n s x) (hok : Ok n T G s) (hn : n ≤ 64) (hG : G ≤ 999999) (hr : s.role = 2) : Calls Tryz.prog 71 #[.agg (pc n s x)] W fun e w' => ∃ aA cA, e = .returned (.tuple #[.agg (pc n s.beat.1 x), .slice aA s.beat.2.length cA]) ∧ Mo W.heap.size w' (.slice aA s.beat.2.length cA) s.beat.2 ∧ Bel W w' := by
  have hidl := hok.idle
  have hw1 : IntKind.i64.wrap (s.idle + 1) = s.idle + 1 := wrapI (by omega) (by omega)
  by_cases hi : s.idle + 1 < 3
  · have HE : Hid (s.beat = ({ s with idle := s.idle + 1 }, [])) := hide (by unfold PP.beat; rw [if_pos hi])
    clear h hok hn hG hr hidl
    go_enter Tryz.func71, Tryz.ntmps71
    go_wp2_with (first
      | go_skip
      | go_guarded
      | (refine bx_box rfl 56 _ rfl (pc n s x) rfl ?_; intro b w0 hr0 hs0 hb0; have HR0 := hide hr0; have HB0 := hide (And.intro hb0 hs0); clear hr0 hs0 hb0)
      | (refine bx_new rfl 56 rfl _ Tryz.zero32 ?_; intro b2 w1 hr1 hs1 hb1; have HZ : Hid (Ty W w1 b b2 n s x) := hide ⟨hb1.row (unhide HR0), (unhide HB0).1.trans hb1, ⟨_, _, _, hr1⟩, by have := (unhide HB0).2; omega, by have := (unhide HB0).1.size; omega, fun e => by have := lt_of_some (unhide HR0); omega⟩; have y12 := (Bx.of (unhide HZ).row).c12; clear hr1 hs1 hb1 HR0 HB0)
      | (refine fl_idle rfl _ _ rfl b _ rfl rfl (unhide HZ).row ?_; intro w5 hr5 hc5; replace HZ := hide ((unhide HZ).set hr5 hc5); have y12 := (Bx.of hr5).c12; clear hr5 hc5)
      | (refine bx_ldG rfl 56 _ rfl b rfl _ _ (unhide HZ).row Tryz.underlying56 (Tryz.size32 _ _ _) ?_)
      | (obtain ⟨s2, x2, n2, h2⟩ := (unhide HZ).row2; refine bx_st rfl 56 _ _ rfl b2 _ _ rfl rfl h2 (Tryz.size32 _ _ _) rfl (pc_one _ _ _) ?_; intro w9 hr9 hc9; have HR9 := hide (And.intro hr9 ((unhide HZ).out hc9)); clear hr9 hc9 h2))
    rw [unhide HE]
    exact bodyPost_ret (res2 (p := 2) (q := 3) rfl Tryz.underlying56 (Tryz.size32 _ _ _) (unhide HR9).1 _ _ rfl rfl) rfl ⟨_, _, rfl, Mo.nil _ _, (unhide HR9).2⟩
  · obtain ⟨s1, hs1⟩ : ∃ s1 : PP, s1 = { s with idle := 0 } := ⟨_, rfl⟩
    have HS1 := hide hs1
    have hmsg : ∀ f, s1.msg f = s.msg f := fun f => by rw [hs1]; rfl
    have HE : Hid (s.beat = (s1, s.fol.map s1.msg)) := hide (by unfold PP.beat; rw [if_neg hi, hs1]; congr 1)
    have HM : Hid (∀ w1, Bel W w1 → ∀ f ∈ s.fol, Calls Tryz.prog 105 #[.agg (pc n s1 x), .agg (encF f).toArray] w1 fun e w' => ∃ a' c', e = .returned (.agg (qc (s1.msg f) a' c')) ∧ E69.O w1.heap.size w' (.slice a' (s1.msg f).ents.length c') (s1.msg f).ents ∧ Bel w1 w') := hide (fun w1 hb f hf => by
      have hfo : 1 ≤ f.2.1 ∧ f.2.1 ≤ s.log.length + 1 ∧ f.2.2 < f.2.1 ∧ 0 ≤ f.2.2 := by
        rcases hok.role with h' | h' | h'
        · omega
        · omega
        · exact h'.2.2.2.2.2.2 f hf
      have hgl := hok.glen
      have hl1 : s1.log = s.log := by rw [hs1]
      exact msg_any (by rw [hl1]; exact h.pw.l.bel hb) (by rw [hl1]; exact h.cap) (by rw [hl1]; omega) f hfo.1 (by rw [hl1]; exact hfo.2.1))
    have HF := hide h.pw.f
    have HFL := hide (fol_len hok hn)
    have hi' : decide (s.idle + 1 < 3) = false := decide_eq_false hi
    clear h hok hn hG hr hidl hmsg hs1
    go_enter Tryz.func71, Tryz.ntmps71
    go_wp2_with (first
      | go_skip
      | go_guarded
      | (refine bx_box rfl 56 _ rfl (pc n s x) rfl ?_; intro b w0 hr0 hs0 hb0; have HR0 := hide hr0; have HB0 := hide (And.intro hb0 hs0); clear hr0 hs0 hb0)
      | (refine bx_new rfl 56 rfl _ Tryz.zero32 ?_; intro b2 w1 hr1 hs1 hb1; have HZ : Hid (Ty W w1 b b2 n s x) := hide ⟨hb1.row (unhide HR0), (unhide HB0).1.trans hb1, ⟨_, _, _, hr1⟩, by have := (unhide HB0).2; omega, by have := (unhide HB0).1.size; omega, fun e => by have := lt_of_some (unhide HR0); omega⟩; have y12 := (Bx.of (unhide HZ).row).c12; clear hr1 hs1 hb1 HR0 HB0)
      | (refine fl_idle rfl _ _ rfl b _ rfl rfl (unhide HZ).row ?_; intro w5 hr5 hc5; replace HZ := hide ((unhide HZ).set hr5 hc5); have y12 := (Bx.of hr5).c12; have y15 := (Bx.of hr5).c15; clear hr5 hc5))
    have HZ1 : Hid (Ty W w5 b b2 n s1 x) := hide (by rw [unhide HS1]; exact unhide HZ)
    clear y12 y15 HZ
    generalize hno : s.fol.length = no at *
    have HNO := hide hno
    have hno64 : no ≤ 64 := unhide HFL
    have HFS : Hid (s1.fol = s.fol) := hide (by rw [unhide HS1])
    clear hno hw1 hi'
    go_loopw [19, 4] (BtR W b b2 n s1 x no) (fun vi _ _ => no - (intOf vi).toNat)
    case atStart => exact ⟨0, none, 0, [], Nat.zero_le _, rfl, rfl, hide (by simp), hide ⟨unhide HZ1, El.O.nil _ _, fun q hq => by cases hq⟩⟩
    case round =>
      obtain ⟨k, aS, cS, qs, hk, rfl, rfl, HQk, HZr⟩ := hrel
      by_cases hlt : k < no
      · have hkn : (k : Int) < no := by omega
        have hkl : k < s.fol.length := by rw [unhide HNO]; exact hlt
        obtain ⟨gf, off, hgf, hR⟩ := (unhide HF).bel (unhide HZr).1.bel
        have ea := hgf (by omega)
        obtain ⟨r0, r1, r2⟩ := E65_cell hR k hkl
        have HMk : Hid (∀ w1, Bel W w1 → Calls Tryz.prog 105 #[.agg (pc n s1 x), .agg #[.int .i64 s.fol[k].1, .int .u64 s.fol[k].2.1, .int .u64 s.fol[k].2.2]] w1 fun e w' => ∃ a' c', e = .returned (.agg (qc (s1.msg s.fol[k]) a' c')) ∧ E69.O w1.heap.size w' (.slice a' (s1.msg s.fol[k]).ents.length c') (s1.msg s.fol[k]).ents ∧ Bel w1 w') := hide (fun w1 hb => (unhide HM) w1 hb s.fol[k] (List.getElem_mem hkl))
        obtain ⟨mk, hmk⟩ : ∃ mk, mk = s1.msg s.fol[k] := ⟨_, rfl⟩
        rw [← hmk] at HMk
        have HQn : Hid (qs.map (·.1) ++ [mk] = (s1.fol.take (k + 1)).map s1.msg) := hide (by
          rw [unhide HQk, unhide HFS, List.take_add_one, List.getElem?_eq_getElem hkl, List.map_append, hmk]; rfl)
        have HQL : Hid (qs.length ≤ 64) := hide (by have := congrArg List.length (unhide HQk); simp at this; omega)
        rw [ea]
        generalize s.fol[k].2.2 = mt at *
        generalize s.fol[k].2.1 = nx at *
        generalize s.fol[k].1 = fi at *
        clear hgf hR ea hmk
        go_wp2_with (first
          | go_skip
          | go_guarded
          | (refine bx_ldG rfl 56 _ rfl b rfl (pc n s1 x) _ (((Bel.refl _).alloc _).row (unhide HZr).1.row) Tryz.underlying56 (Tryz.size32 _ _ _) ?_)
          | (go_at_call 105; refine ((unhide HMk) _ ((unhide HZr).1.bel.alloc _)).mono ?_; rintro e w6 ⟨a6, c6, rfl, ho6, hb6⟩; have hbb := ((Bel.refl wr).alloc (.cells #[.int .i64 fi, .int .u64 nx, .int .u64 mt] 133)).trans hb6; have HA := hide (And.intro ((unhide HZr).1.next hbb) (And.intro ((unhide HZr).2.1.bel hbb) (And.intro (fun q (hq : q ∈ qs) => ((unhide HZr).2.2 q hq).bel hbb) (ho6.mono (show W.heap.size ≤ _ from ((unhide HZr).1.bel.alloc (.cells #[.int .i64 fi, .int .u64 nx, .int .u64 mt] 133)).size))))); clear ho6 hb6 hbb)
          | (refine el_one E27q (qc mk a6 c6) rfl (by decide) _ rfl rfl rfl ?_)
          | (at_builtin; refine app1_el (E := E27q) (mk, a6, c6) (qs ++ [(mk, a6, c6)]) rfl ((unhide HA).2.1.bel ((Bel.refl _).alloc _)) (Nat.le_trans (unhide HA).1.bel.size ((Bel.refl _).alloc _).size) _ _ (at_new _ _) (by have := unhide HQL; omega) rfl _ _ 49 rfl rfl rfl rfl ?_; intro g7 cap7 w7 ho7 hg7 hat7; have q7 := (unhide HA).1.next ((Bel.refl w6).alloc (.cells (qc mk a6 c6) 27)); have HB := hide (And.intro (q7.grown ((unhide HA).2.1.bel ((Bel.refl _).alloc _)) hg7) (And.intro ho7 (fun q (hq : q ∈ qs ++ [(mk, a6, c6)]) => (show E69.O W.heap.size w7 (.slice q.2.1 q.1.ents.length q.2.2) q.1.ents from ((List.mem_append.1 hq).elim (fun h => ((unhide HA).2.2.1 q h).bel ((Bel.refl _).alloc _)) (fun h => (List.mem_singleton.1 h) ▸ (unhide HA).2.2.2.bel ((Bel.refl _).alloc _))).grown ((unhide HA).2.1.bel ((Bel.refl _).alloc _)) hg7 (by decide))))); clear q7 ho7 hg7 hat7))
        go_roundw
        case rel =>
          have hfin : ∀ v u : Value, v = .int .i64 ((k + 1 : Nat) : Int) → u = .slice (some ⟨g7, 0, none⟩) (qs ++ [(mk, a6, c6)]).length cap7 → BtR W b b2 n s1 x no v u w7 := fun v u hv hu => ⟨k + 1, _, _, qs ++ [(mk, a6, c6)], by omega, hv, hu, hide (by rw [List.map_append]; exact unhide HQn), HB⟩
          first
            | exact hfin _ _ (by go_num) (by simp)
            | ((repeat apply Exists.intro); exact ⟨hfin _ _ (by go_num) (by simp), rfl, rfl⟩)
        case measure => simp [intOf]; omega
      · obtain rfl : k = no := by omega
        have hQ : qs.map (·.1) = s.fol.map s1.msg := by rw [unhide HQk, unhide HFS, List.take_of_length_le (by rw [unhide HNO]; omega)]
        have HLN : Hid (qs.length = (s.fol.map s1.msg).length) := hide (by rw [← hQ, List.length_map])
        have HQQ := hide hQ
        clear hQ
        go_wp2_with (first
          | go_skip
          | go_guarded
          | (refine bx_ldG rfl 56 _ rfl b rfl (pc n s1 x) _ (unhide HZr).1.row Tryz.underlying56 (Tryz.size32 _ _ _) ?_)
          | (obtain ⟨s2, x2, n2, h2⟩ := (unhide HZr).1.row2; refine bx_st rfl 56 _ _ rfl b2 (pc n s1 x) _ rfl rfl h2 (Tryz.size32 _ _ _) rfl (pc_one _ _ _) ?_; intro w9 hr9 hc9; have HR9 := hide (And.intro hr9 (And.intro ((unhide HZr).1.out hc9) (And.intro ((unhide HZr).2.1.box h2 (by decide) hc9) (fun q (hq : q ∈ qs) => ((unhide HZr).2.2 q hq).box h2 (by decide) hc9)))); clear hr9 hc9 h2))
        rw [unhide HE]
        refine bodyPost_ret (res2 (p := 2) (q := 3) rfl Tryz.underlying56 (Tryz.size32 _ _ _) (unhide HR9).1 _ _ rfl rfl) rfl ⟨aS, cS, ?_, ⟨qs, unhide HQQ, ?_, fun q hq => ⟨(unhide HR9).2.2.2 q hq, fun hk => by
          have h5 : q.1 ∈ s.fol.map s1.msg := by rw [← unhide HQQ]; exact List.mem_map.2 ⟨q, hq, rfl⟩
          obtain ⟨f, _, h6⟩ := List.mem_map.1 h5
          rw [← h6] at hk
          exact absurd hk (by show ¬ ((3 : Int) < 3); decide)⟩⟩, (unhide HR9).2.1⟩
        · rw [← unhide HLN]; rfl
        · rw [← unhide HLN]; exact (unhide HR9).2.2.1
end Go.Proofs.YthipgcojbhcdgaaGreat
