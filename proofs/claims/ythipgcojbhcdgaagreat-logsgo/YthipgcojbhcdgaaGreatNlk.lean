/- A step, whatever it is. A group begins. Begin. alive of the logs' law. LogsAlike's walk. -/
import Derived.Test.YthipgcojbhcdgaaGreatLsi
import Derived.Test.YthipgcojbhcdgaaGreatLsj
import Derived.Test.YthipgcojbhcdgaaGreatLsk
import Derived.Test.YthipgcojbhcdgaaGreatLsl
import Derived.Test.YthipgcojbhcdgaaGreatNsd
import Derived.Test.YthipgcojbhcdgaaGreatNew
import Derived.Test.YthipgcojbhcdgaaGreatLtk
import Derived.Test.YthipgcojbhcdgaaGreatNgra
namespace Go.Proofs.YthipgcojbhcdgaaGreat
open Go.RowKit Go.Maps Go.Sort
/-- Behind a step: what holds, and what it is but for a proposal. -/
def StA (W : World) (n b gP cP k : Nat) (g : PG) (A : Act4) (ma mn : Nat) (e : Ending) (w' : World) : Prop := ∃ g', StR W n b gP cP k g' e w' ∧ (A.op = 0 ∨ A.op = 1 ∨ A.op = 2 → g' = pstep n g A.op ma mn A.keep)
theorem step_any {W w : World} {n b gP cP k : Nat} {vW vD : Value} {L : List (PP × Px)} {Q : List (QM × Option Addr × Nat)} {dn : List PE} (h : Gk W n b gP cP k vW vD L Q dn w) (hn1 : 1 ≤ n) (hn64 : n ≤ 64) (hk : k ≤ 800000) (A : Act4) (iz : Int) (ma mn : Nat) (hma : bits .and .i64 A.a 65535 = (ma : Int)) (hmn : bits .and .i64 A.n 65535 = (mn : Int)) : Calls Tryz.prog 15 #[.pointer (some ⟨b, 0, none⟩), .agg (ac A), .int .i64 iz] w (StA W n b gP cP k (pg L Q dn) A ma mn) := by
  by_cases h0 : A.op = 0
  · refine (step_0 h hn1 hn64 hk A iz ma mn hma hmn h0).mono (fun _ _ hs => ⟨_, hs, fun _ => by rw [h0]⟩)
  · by_cases h12 : A.op = 1 ∨ A.op = 2
    · by_cases hQ : Q.length = 0
      · exact (step_e h hn1 hn64 hk A iz ma mn hma hmn h12 hQ).mono (fun _ _ hs => ⟨_, hs, fun _ => rfl⟩)
      · rcases h12 with h1 | h2
        · cases hkp : A.keep with
          | true => exact (step_1 h hn1 hn64 hk A iz ma mn hma hmn h1 hkp hQ).mono (fun _ _ hs => ⟨_, hs, fun _ => rfl⟩)
          | false => exact (step_3 h hn1 hn64 hk A iz ma mn hma hmn h1 hkp hQ).mono (fun _ _ hs => ⟨_, hs, fun _ => rfl⟩)
        · exact (step_2 h hn1 hn64 hk A iz ma mn hma hmn h2 hQ).mono (fun _ _ hs => ⟨_, hs, fun _ => rfl⟩)
    · refine (step_d h hn1 hn64 hk A iz ma mn hma hmn h0 (fun h1 => h12 (Or.inl h1)) (fun h2 => h12 (Or.inr h2))).mono (fun _ _ ⟨g', hs⟩ => ⟨g', hs, fun h => ?_⟩)
      rcases h with h | h | h
      · exact absurd h h0
      · exact absurd (Or.inl h) h12
      · exact absurd (Or.inr h) h12
end Go.Proofs.YthipgcojbhcdgaaGreat
namespace Go.Proofs.YthipgcojbhcdgaaGreat
open Go.RowKit Go.Maps Go.Sort
theorem mem_take (n i : Nat) (hi : i < n) : (mem n).take (i + 1) = (mem n).take i ++ [(i : Int) + 1] := by
  have hl : i < (mem n).length := by rw [mem_len]; exact hi
  rw [List.take_add_one, List.getElem?_eq_getElem hl]
  simp [mem]
/-- The members at the beginning. -/
def news (i : Nat) : List PP := (List.range i).map fun (j : Nat) => pnew ((j : Int) + 1) (1 + 2 * (j : Int))
theorem news_succ (i : Nat) : news (i + 1) = news i ++ [pnew ((i : Int) + 1) (1 + 2 * (i : Int))] := by simp [news, List.range_succ]
theorem inv0 {n : Nat} (h5 : n ≤ 5) : Inv n 0 0 (news n) [] (fun _ => 0) (fun _ _ => 0) := by
  have hl : (news n).length = n := by simp [news]
  have hg : ∀ i (h : i < (news n).length), (news n)[i] = pnew ((i : Int) + 1) (1 + 2 * (i : Int)) := fun i h => by simp [news]
  refine ⟨hl, fun i h => ?_, fun m hm => (by cases hm), fun i h => ?_, fun i h t ht => rfl, fun m hm => (by cases hm), fun i h hr => ?_, fun i h hr => ?_, fun t ht => absurd rfl ht⟩
  · rw [hg]; exact ⟨pnew_ok (by omega) (by omega), rfl⟩
  · simp only [hg]; rfl
  · simp only [hg] at hr; cases hr
  · simp only [hg] at hr; cases hr
theorem al0 {n : Nat} (h5 : n ≤ 5) : Al n 0 0 (news n) [] [] := Al.begin (inv0 h5) (fun i h => by simp [news]; exact ⟨rfl, rfl, rfl⟩)
section
variable {o : Oper} {a : Act} {w : World}
theorem app_run48 (x y : Operand) (ho : o.op = .call { callee := .builtin .append, args := #[x, y], argTypes := #[48, 48] }) {v1 v2 v' : Value} {w' : World} (hs : a.eval x = v1) (hy : a.eval y = v2) (hrun : (Builtin.append_ #[48, 48] o.type #[v1, v2]).run Tryz.prog w = .ok v' w') : (execOp a.eval o).run Tryz.prog w = .ok (.value v') w' := by
  unfold execOp
  simp only [ho, resolve, invoke, builtin, Sem.run_bind, Sem.run_pure, Result.andThen_ok, List.map_toArray, List.map_cons, List.map_nil, hs, hy, hrun]
end
theorem Pf.grown32 {n m : Nat} {s : PP} {x : Px} {base b2 : Nat} {v2 : Value} {M : List (PP × Px)} {w w' : World} (h : Pf base w m s x) (h2 : (E32 n).O b2 w v2 M) (hg : w.grownBy w' v2.ownBlock) : Pf base w' m s x := ⟨h.m.grown h2 hg (show (3 : Nat) ≠ 56 by decide), h.b.grown h2 hg (show (3 : Nat) ≠ 56 by decide), h.l.grown h2 hg (show (61 : Nat) ≠ 56 by decide), h.v.grown h2 hg (show (3 : Nat) ≠ 56 by decide), h.f.grown h2 hg (show (133 : Nat) ≠ 56 by decide), h.dv⟩
/-- How the members are made. -/
structure Bg (W : World) (n b : Nat) (a5 : Addr) (c5 j : Nat) (v : Value) (L : List (PP × Px)) (w : World) : Prop where
  eq : L.map (·.1) = news j
  box : w.heap[b]? = some (.cells #[v, .slice none 0 0, .slice none 0 0] 51)
  row : (E32 n).O W.heap.size w v L
  pf : ∀ q ∈ L, Pg 0 w n q.1 q.2
  ids : E3.O W.heap.size w (.slice (some a5) n c5) (mem n)
  bel : Bel W w
  ge : W.heap.size ≤ b
theorem Bg.next {W w w' : World} {n b c5 j : Nat} {a5 : Addr} {v : Value} {L : List (PP × Px)} (h : Bg W n b a5 c5 j v L w) (hb : Bel w w') : Bg W n b a5 c5 j v L w' := ⟨h.eq, hb.row h.box, h.row.bel hb, fun q hq => (h.pf q hq).bel hb, h.ids.bel hb, h.bel.trans hb, h.ge⟩
/-- One member more. -/
theorem Bg.more {W w w1 w2 : World} {n b c5 j : Nat} {a5 : Addr} {v v' : Value} {L : List (PP × Px)} {x1 : Px} (h : Bg W n b a5 c5 j v L w) (hp : Pg 0 w n (pnew ((j : Int) + 1) (1 + 2 * (j : Int))) x1) (hO : (E32 n).O W.heap.size w1 v' (L ++ [(pnew ((j : Int) + 1) (1 + 2 * (j : Int)), x1)])) (hg : w.grownBy w1 v.ownBlock) (hr : w2.heap[b]? = some (.cells #[v', .slice none 0 0, .slice none 0 0] 51)) (hc : Ch (fun k => k = b) w1 w2) : Bg W n b a5 c5 (j + 1) v' (L ++ [(pnew ((j : Int) + 1) (1 + 2 * (j : Int)), x1)]) w2 := by
  have hbx := row_grown h.box h.row hg (show (51 : Nat) ≠ 56 by decide)
  have pp : ∀ {s : PP} {x : Px}, Pg 0 w n s x → Pg 0 w2 n s x := fun {s x} p => ⟨(p.m.grown h.row hg (show (3 : Nat) ≠ 56 by decide)).box hbx (by decide) hc, (p.b.grown h.row hg (show (3 : Nat) ≠ 56 by decide)).box hbx (by decide) hc, (p.l.grown h.row hg (show (61 : Nat) ≠ 56 by decide)).box hbx (by decide) hc, (p.v.grown h.row hg (show (3 : Nat) ≠ 56 by decide)).box hbx (by decide) hc, (p.f.grown h.row hg (show (133 : Nat) ≠ 56 by decide)).box hbx (by decide) hc⟩
  refine ⟨by rw [List.map_append, h.eq, news_succ]; rfl, hr, hO.box hbx (show (56 : Nat) ≠ 51 by decide) hc, fun q hq => ?_, (h.ids.grown h.row hg (show (3 : Nat) ≠ 56 by decide)).box hbx (by decide) hc, ?_, h.ge⟩
  · rcases List.mem_append.1 hq with hq | hq
    · exact pp (h.pf q hq)
    · rw [List.mem_singleton.1 hq]; exact pp hp
  · have h1 : Bel W w1 := ((h.bel.ch (fun i => W.heap.size ≤ i)).grown hg (fun k hk => Or.inl (h.row.lt hk).1)).below (Nat.le_refl _) (fun _ hi => hi)
    exact bel_off h1 hc h.ge
theorem Bg.gk {W w : World} {n b c5 gP cP : Nat} {a5 : Addr} {L : List (PP × Px)} (h : Bg W n b a5 c5 n (.slice (some ⟨gP, 0, none⟩) n cP) L w) (h5 : n ≤ 5) : Gk W n b gP cP 0 (.slice none 0 0) (.slice none 0 0) L [] [] w :=
  ⟨⟨h.box, h.row, h.pf, El.O.nil _ _, fun q hq => (by cases hq), El.O.nil _ _, fun q hq k hk hd => (by cases hd), fun q hq => (by cases hq), h.bel, h.ge⟩, by rw [h.eq]; exact al0 h5, fun o ho => (by cases ho), Nat.zero_le _⟩
end Go.Proofs.YthipgcojbhcdgaaGreat
namespace Go.Proofs.YthipgcojbhcdgaaGreat
open Go.RowKit Go.Maps Go.Sort
def BgR (W : World) (n : Nat) (e : Ending) (w' : World) : Prop := ∃ b gP cP L, e = .returned (.tuple #[.pointer (some ⟨b, 0, none⟩), .bool true]) ∧ Gk W n b gP cP 0 (.slice none 0 0) (.slice none 0 0) L [] [] w' ∧ L.map (·.1) = news n
set_option maxRecDepth 100000 in
set_option maxHeartbeats 16000000 in
theorem begin_any {W : World} {n : Nat} (hn1 : 1 ≤ n) (hn5 : n ≤ 5) : Calls Tryz.prog 14 #[.int .i64 (n : Int)] W (BgR W n) := by
  go_enter Tryz.func14, Tryz.ntmps14
  go_wp2_with fail
  have hbb : (W.alloc (.cells #[.slice none 0 0, .slice none 0 0, .slice none 0 0] 51)).heap[W.heap.size]? = some (.cells #[.slice none 0 0, .slice none 0 0, .slice none 0 0] 51) := at_new W _
  have hWb : Bel W (W.alloc (.cells #[.slice none 0 0, .slice none 0 0, .slice none 0 0] 51)) := (Bel.refl W).alloc _
  have hge : W.heap.size ≤ W.heap.size := Nat.le_refl _
  generalize W.alloc (.cells #[.slice none 0 0, .slice none 0 0, .slice none 0 0] 51) = w0 at *
  obtain ⟨b, hb⟩ : ∃ b, b = W.heap.size := ⟨_, rfl⟩
  rw [← hb] at hbb ⊢
  have HBB := hide (And.intro hbb (And.intro hWb (Nat.le_of_eq hb.symm)))
  clear hbb hWb hge hb
  go_loopg [5, 6] n (fun gk v5 v6 wr => ∃ i : Nat, i ≤ n ∧ gk = n - i ∧ v6 = .int .i64 ((i : Int) + 1) ∧ Hid (E3.O W.heap.size wr v5 ((mem n).take i) ∧ wr.heap[b]? = some (.cells #[.slice none 0 0, .slice none 0 0, .slice none 0 0] 51) ∧ Bel W wr))
  case atStart => exact ⟨0, Nat.zero_le _, rfl, rfl, hide ⟨by rw [List.take_zero]; exact El.O.nil _ _, (unhide HBB).1, (unhide HBB).2.1⟩⟩
  case round =>
    obtain ⟨i, hi, hgk, rfl, HI⟩ := hrel
    by_cases hlt : i < n
    · have hle : ((i : Int) + 1) ≤ n := by omega
      obtain ⟨M', hM'⟩ : ∃ M', M' = (mem n).take (i + 1) := ⟨_, rfl⟩
      have HM := hide (hM'.trans (mem_take n i hlt))
      have HM' := hide hM'
      clear hM'
      go_wp2_with (first
        | (at_builtin; refine app1_el (E := E3) ((i : Int) + 1) M' (unhide HM) ((unhide HI).1.bel ((Bel.refl _).alloc _)) (Nat.le_trans (unhide HI).2.2.size ((Bel.refl _).alloc _).size) _ _ (at_new _ _) (by simp; omega) rfl _ _ 25 rfl rfl rfl rfl ?_; intro g cap w4 ho4 hg4 hat4; have HJ := hide (And.intro ho4 (And.intro (row_grown (((Bel.refl _).alloc _).row (unhide HI).2.1) ((unhide HI).1.bel ((Bel.refl _).alloc _)) hg4 (by decide)) ((((unhide HI).2.2.alloc _).ch (fun i => W.heap.size ≤ i)).grown hg4 (fun j hj => Or.inl ((unhide HI).1.lt hj).1) |>.below (Nat.le_refl _) (fun _ hi => hi)))); clear ho4 hg4 hat4))
      go_roundg (gk - 1)
      case measure => omega
      case rel => exact ⟨i + 1, by omega, by omega, congrArg (Value.int .i64) (by omega), hide (by rw [← unhide HM']; exact unhide HJ)⟩
    · have hle : ¬ ((i : Int) + 1) ≤ n := by omega
      obtain rfl : i = n := by omega
      have hI := unhide HI
      rw [List.take_of_length_le (by rw [mem_len]; omega)] at hI
      obtain ⟨a5, c5, g5, e5, h5, R5, hc5⟩ := hI.1.shape
      rw [mem_len] at e5 h5 hc5
      obtain rfl := h5 (by omega)
      subst e5
      have HB : Hid (Bg W i b ⟨g5, 0, none⟩ c5 0 (.slice none 0 0) [] wr) := hide ⟨rfl, hI.2.1, El.O.nil _ _, fun q hq => (by cases hq), hI.1, hI.2.2, (unhide HBB).2.2⟩
      clear hI h5 R5 hc5 HI hle hi hgk hlt
      go_wp2_with fail
      go_loopg [7] i (fun gk v7 wr => ∃ (j : Nat) (vP : Value) (L : List (PP × Px)), j ≤ i ∧ gk = i - j ∧ v7 = .int .i64 (j : Int) ∧ Hid (Bg W i b ⟨g5, 0, none⟩ c5 j vP L wr))
      case atStart => exact ⟨0, _, _, Nat.zero_le _, rfl, rfl, HB⟩
      case round =>
        clear HB
        obtain ⟨j, vP, L, hj, hgk, rfl, HB⟩ := hrel
        by_cases hlt : j < i
        · have hle : (j : Int) < i := by omega
          have r0 : wr.cell? ⟨g5, j, none⟩ = some (.int .i64 ((j : Int) + 1)) := by
            have hjm : j < (mem i).length := by rw [mem_len]; exact hlt
            have := (unhide HB).ids.range j hjm 0 _ rfl
            simpa [E3, mem] using this
          have hw2 : IntKind.i64.wrap (2 * (j : Int)) = 2 * (j : Int) := wrapI (by omega) (by omega)
          have hw3 : IntKind.i64.wrap (1 + 2 * (j : Int)) = 1 + 2 * (j : Int) := wrapI (by omega) (by omega)
          obtain ⟨s0, hs0⟩ : ∃ s0, s0 = pnew ((j : Int) + 1) (1 + 2 * (j : Int)) := ⟨_, rfl⟩
          have HN : Hid (Calls Tryz.prog 17 #[.int .i64 ((j : Int) + 1), .int .i64 (1 + 2 * (j : Int)), .slice (some ⟨g5, 0, none⟩) i c5] wr fun e w' => ∃ x', e = .returned (.tuple #[.agg (pc i s0 x'), .int .i64 0]) ∧ Pf wr.heap.size w' i s0 x' ∧ Bel wr w') := hide (by rw [hs0]; exact new_any (Sl.of (unhide HB).ids).1 (by omega) (by omega) (by omega))
          have HS0 := hide hs0
          have HLL : Hid (L.length + 1 ≤ 100000000000) := hide (by have := congrArg List.length (unhide HB).eq; simp [news] at this; omega)
          clear hs0
          go_wp2_with (first
            | (go_at_call 17; refine (unhide HN).mono ?_; rintro e w2 ⟨x2, rfl, hp2, hb2⟩; have HP := hide hp2.pg; have HB2 := hide ((unhide HB).next hb2); clear hp2 hb2 HN)
            | (with_reducible refine bxp_new ?_ ?_ ?_; exact rfl; exact rfl; intro b8 w3 hr3 hs3 hb3; have HR3 := hide (And.intro hr3 (And.intro hs3 hb3)); clear hr3 hs3 hb3)
            | (with_reducible refine bxp_st (.tmp 8) (.tmp 36) b8 i s0 x2 (unhide HR3).1 ?_ ?_ ?_ ?_ ?_; exact rfl; exact rfl; (first | exact rfl | simp [Act.put, Act.eval]); (first | exact rfl | simp [Act.put, Act.eval]); intro w4 hr4 hc4; have hq4 := bel_off (unhide HR3).2.2 hc4 (Nat.le_of_eq (unhide HR3).2.1); have HR4 := hide hr4; have HP4 := hide (((unhide HP).bel hq4).lowG (Nat.zero_le _)); have HB4 := hide ((unhide HB2).next hq4); have HNE : Hid (∀ k, vP.ownBlock = some k → k ≠ b8) := hide (fun k hk => by have h1 := ((unhide HB2).row.lt hk).2; have h2 := (unhide HR3).2.1; omega); clear hr4 hc4 hq4 HR3 HP HB2))
          have hBd := (unhide HB4).next (Bel.refl w4).drew
          have hPd := (unhide HP4).bel (Bel.refl w4).drew
          refine wp_region_held_drew (S := fun w => w.heap[b8]? = some (.cells (pc i s0 x2) 56)) Tryz.follows (((Bel.refl w4).drew).row (unhide HR4)) (fun hS => ?_)
          generalize w4.drew = wd at *
          refine any_take (i := 0) (v := .pointer (some ⟨b, 0, none⟩)) rfl (by kernel_rfl) (by kernel_rfl) (by kernel_rfl) (fun _ _ _ h => h) rfl hS (fun w hw => by go_simp) ?_
          refine any_take (i := 1) (v := .pointer (some ⟨b, 0, none⟩)) rfl (by kernel_rfl) (by kernel_rfl) (by kernel_rfl) (fun _ _ _ h => h) rfl hS (fun w hw => by go_simp) ?_
          refine any_take (i := 2) (v := .pointer (some ⟨b, 0, none⟩)) rfl (by kernel_rfl) (by kernel_rfl) (by kernel_rfl) (fun _ _ _ h => h) rfl hS (fun w hw => by go_simp) ?_
          refine any_take (i := 3) (v := .pointer (some ⟨b, 0, none⟩)) rfl (by kernel_rfl) (by kernel_rfl) (by kernel_rfl) (fun _ _ _ h => h) rfl hS (fun w hw => by go_simp) ?_
          refine any_ld (i := 5) (b := b8) rfl (by kernel_rfl) (by kernel_rfl) (by kernel_rfl) (fun _ _ _ h => h) rfl hS rfl rfl (fun w hw => hw) ?_
          have hA : Bel wd (wd.alloc (.cells ((E32 i).enc (s0, x2)).toArray (E32 i).e)) := (Bel.refl wd).alloc _
          have hSA : (wd.alloc (.cells ((E32 i).enc (s0, x2)).toArray (E32 i).e)).heap[b8]? = some (.cells (pc i s0 x2) 56) := hA.row hS
          have hBA := hBd.next hA
          have y0 : wd.cell? ⟨b, 0, none⟩ = some vP := (cell_of hBd.box).trans rfl
          have yA : (wd.alloc (.cells ((E32 i).enc (s0, x2)).toArray (E32 i).e)).cell? ⟨b, 0, none⟩ = some vP := (cell_of hBA.box).trans rfl
          have hnw : (wd.alloc (.cells ((E32 i).enc (s0, x2)).toArray (E32 i).e)).heap[wd.heap.size]? = some (.cells ((E32 i).enc (s0, x2)).toArray (E32 i).e) := at_new wd _
          obtain ⟨g7, c7, w7, hrun, ho7, hg7, _⟩ := El.run_app1 (E := E32 i) (wd.alloc (.cells ((E32 i).enc (s0, x2)).toArray (E32 i).e)) W.heap.size vP L hBA.row hBA.bel.size (s0, x2) wd.heap.size 1 hnw (unhide HLL) 48
          have hS7 : w7.heap[b8]? = some (.cells (pc i s0 x2) 56) := (hg7.block b8 (lt_of_some hSA) (fun e => (unhide HNE) b8 e.symm rfl)).trans hSA
          have hbx7 := row_grown hBA.box hBA.row hg7 (show (51 : Nat) ≠ 56 by decide)
          have hcc := ch_row (c' := #[.slice (some ⟨g7, 0, none⟩) (L.length + 1) c7, .slice none 0 0, .slice none 0 0]) hbx7
          have hS8 : (w7.setRow b #[.slice (some ⟨g7, 0, none⟩) (L.length + 1) c7, .slice none 0 0, .slice none 0 0]).heap[b8]? = some (.cells (pc i s0 x2) 56) := hcc.2.row hS7 (ne_kind hS7 hbx7 (by decide))
          have hBN : Bg W i b ⟨g5, 0, none⟩ c5 (j + 1) (.slice (some ⟨g7, 0, none⟩) (L.length + 1) c7) (L ++ [(s0, x2)]) (w7.setRow b #[.slice (some ⟨g7, 0, none⟩) (L.length + 1) c7, .slice none 0 0, .slice none 0 0]) := by
            have hs0 := unhide HS0
            subst hs0
            exact hBA.more (hPd.bel hA) ho7 hg7 hcc.1 hcc.2
          clear hcc hg7 ho7 hnw hBA hBd hPd hA
          refine any_twoV (i := 4) (j := 6) (vi := vP) (wi := wd) (vj := .slice (some ⟨wd.heap.size, 0, none⟩) 1 1) (wj := wd.alloc (.cells ((E32 i).enc (s0, x2)).toArray (E32 i).e)) (by kernel_rfl) (by exact rfl) (by exact rfl) (by exact rfl) (by exact rfl) (by go_simp) (one_runE (E32 i) (.tmp 45) (s0, x2) (by exact rfl) (by show _ = Value.agg (pc i s0 x2); go_simp) (by show ¬ 1 * 18 > 2 ^ 24; decide)) ⟨hS, ?_⟩ ⟨hSA, ?_⟩
          · refine any_do (i := 6) (v := .slice (some ⟨wd.heap.size, 0, none⟩) 1 1) (w' := wd.alloc (.cells ((E32 i).enc (s0, x2)).toArray (E32 i).e)) (by kernel_rfl) rfl rfl (one_runE (E32 i) (.tmp 45) (s0, x2) (by exact rfl) (by show _ = Value.agg (pc i s0 x2); go_simp) (by show ¬ 1 * 18 > 2 ^ 24; decide)) ⟨hSA, ?_⟩
            refine any_do (i := 7) (v := .slice (some ⟨g7, 0, none⟩) (L.length + 1) c7) (w' := w7) (by kernel_rfl) rfl rfl (app_run48 (v1 := vP) (v2 := .slice (some ⟨wd.heap.size, 0, none⟩) 1 1) (.tmp 44) (.tmp 46) (by exact rfl) (by go_simp) (by go_simp) hrun) ⟨hS7, ?_⟩
            refine any_do (i := 8) (v := .pointer (some ⟨b, 0, none⟩)) (w' := w7) (by kernel_rfl) rfl rfl (by go_simp) ⟨hS7, ?_⟩
            refine any_do (i := 9) (v := .pointer (some ⟨b, 0, none⟩)) (w' := w7) (by kernel_rfl) rfl rfl (by go_simp) ⟨hS7, ?_⟩
            refine any_skip (i := 10) (w' := w7.setRow b #[.slice (some ⟨g7, 0, none⟩) (L.length + 1) c7, .slice none 0 0, .slice none 0 0]) (by kernel_rfl) rfl rfl (fld_run 48 (.tmp 49) (.tmp 47) (by exact rfl) b 0 (.slice (some ⟨g7, 0, none⟩) (L.length + 1) c7) (by go_simp) (by go_simp) rfl rfl #[vP, .slice none 0 0, .slice none 0 0] 51 hbx7 (by kernel_rfl) (by show 0 < 3; decide)) ⟨hS8, ?_⟩
            refine wpAnyH_done (by kernel_rfl) ?_ _
            clear hS hSA hS7 hS8 hbx7 hrun y0 yA
            generalize w7.setRow b #[.slice (some ⟨g7, 0, none⟩) (L.length + 1) c7, .slice none 0 0, .slice none 0 0] = wn at *
            simp [Act.put]
            go_wp2_with fail
            go_roundg (gk - 1)
            case measure => omega
            case rel => exact ⟨j + 1, _, _, by omega, by omega, congrArg (Value.int .i64) (by omega), hide hBN⟩
          · refine any_do (i := 4) (v := vP) (w' := wd.alloc (.cells ((E32 i).enc (s0, x2)).toArray (E32 i).e)) (by kernel_rfl) rfl rfl (by go_simp) ⟨hSA, ?_⟩
            refine any_do (i := 7) (v := .slice (some ⟨g7, 0, none⟩) (L.length + 1) c7) (w' := w7) (by kernel_rfl) rfl rfl (app_run48 (v1 := vP) (v2 := .slice (some ⟨wd.heap.size, 0, none⟩) 1 1) (.tmp 44) (.tmp 46) (by exact rfl) (by go_simp) (by go_simp) hrun) ⟨hS7, ?_⟩
            refine any_do (i := 8) (v := .pointer (some ⟨b, 0, none⟩)) (w' := w7) (by kernel_rfl) rfl rfl (by go_simp) ⟨hS7, ?_⟩
            refine any_do (i := 9) (v := .pointer (some ⟨b, 0, none⟩)) (w' := w7) (by kernel_rfl) rfl rfl (by go_simp) ⟨hS7, ?_⟩
            refine any_skip (i := 10) (w' := w7.setRow b #[.slice (some ⟨g7, 0, none⟩) (L.length + 1) c7, .slice none 0 0, .slice none 0 0]) (by kernel_rfl) rfl rfl (fld_run 48 (.tmp 49) (.tmp 47) (by exact rfl) b 0 (.slice (some ⟨g7, 0, none⟩) (L.length + 1) c7) (by go_simp) (by go_simp) rfl rfl #[vP, .slice none 0 0, .slice none 0 0] 51 hbx7 (by kernel_rfl) (by show 0 < 3; decide)) ⟨hS8, ?_⟩
            refine wpAnyH_done (by kernel_rfl) ?_ _
            clear hS hSA hS7 hS8 hbx7 hrun y0 yA
            generalize w7.setRow b #[.slice (some ⟨g7, 0, none⟩) (L.length + 1) c7, .slice none 0 0, .slice none 0 0] = wn at *
            simp [Act.put]
            go_wp2_with fail
            go_roundg (gk - 1)
            case measure => omega
            case rel => exact ⟨j + 1, _, _, by omega, by omega, congrArg (Value.int .i64) (by omega), hide hBN⟩
        · have hle : ¬ (j : Int) < i := by omega
          obtain rfl : j = i := by omega
          have hB := unhide HB
          have hlen : L.length = j := by have := congrArg List.length hB.eq; simpa [news] using this
          obtain ⟨a7, c7, g7, e7, h7, _, _⟩ := hB.row.shape
          rw [hlen] at e7 h7
          obtain rfl := h7 (by omega)
          subst e7
          have HGK := hide (And.intro (hB.gk hn5) hB.eq)
          clear hB hlen h7
          go_wp2_with fail
          go_ret2
          exact ⟨_, _, _, _, rfl, (unhide HGK).1, (unhide HGK).2⟩
end Go.Proofs.YthipgcojbhcdgaaGreat
namespace Go.Proofs.YthipgcojbhcdgaaGreat
open Go.RowKit Go.Maps Go.Sort
theorem sl_new3 (W : World) (l : List Int) : Sl E3 (W.alloc (.cells (l.map fun x => Value.int .i64 x).toArray 3)) (some ⟨W.heap.size, 0, none⟩) l :=
  ⟨W.heap.size, 0, fun _ => rfl, fun j hj c u hu => by
    have hc : c = 0 ∧ u = .int .i64 l[j] := by
      cases c with
      | zero => simp [E3] at hu; exact ⟨rfl, hu.symm⟩
      | succ c => simp [E3] at hu
    obtain ⟨rfl, rfl⟩ := hc
    rw [cell_of (at_new W _)]
    simp [E3, hj]⟩
/-- A group of one, behind its first tick. -/
def s1 : PP := ⟨1, 1, 1, 2, 1, 2, 10, [noop 1], [], [], 0⟩
def q1 : PP := ⟨1, 1, 1, 2, 1, 2, 10, [noop 1], [], [], 1⟩
theorem tick_1 : (pnew 1 1).tick 1 0 = (s1, []) := by rfl
theorem adv_1 : s1.adv = q1 := by rfl
theorem most_1 (d : ByteArray) : most (q1.more d).have = 2 := by simp [most, PP.have, PP.more, PP.lastI, q1, srtD, insD]
theorem prop_1 (d : ByteArray) : (q1.prop d).commit = 2 ∧ (q1.prop d).log.length = 2 := by
  unfold PP.prop PP.adv
  rw [most_1]
  constructor
  · show (if tAt [noop 1, ⟨1, 0, d⟩] 2 = 1 then max 1 2 else 1) = 2
    rw [if_pos (by simp [tAt])]
    rfl
  · rfl
theorem lg_1 : Lg 1 [noop 1] := ⟨by simp, fun x hx => by
  rw [List.mem_singleton.1 hx]; exact ⟨⟨by decide, by decide⟩, Or.inr ⟨rfl, rfl⟩⟩⟩
theorem ok_s1 : Ok 1 1 1 s1 := ⟨by decide, by decide, by decide, by decide, by decide, by decide, by decide, by decide, lg_1, by decide, by decide, List.Pairwise.nil, (fun x hx => by cases hx), Or.inr (Or.inr ⟨rfl, rfl, by decide, rfl, by decide, by decide, (fun f hf => by cases hf)⟩)⟩
theorem ok_q1 : Ok 1 1 1 q1 := ⟨by decide, by decide, by decide, by decide, by decide, by decide, by decide, by decide, lg_1, by decide, by decide, List.Pairwise.nil, (fun x hx => by cases hx), Or.inr (Or.inr ⟨rfl, rfl, by decide, rfl, by decide, by decide, (fun f hf => by cases hf)⟩)⟩
theorem Pf.low {base : Nat} {W : World} {n : Nat} {s : PP} {x : Px} (hf : Pf base W n s x) : Pf 0 W n s x := ⟨hf.m.mono (Nat.zero_le _), hf.b.mono (Nat.zero_le _), hf.l.mono (Nat.zero_le _), hf.v.mono (Nat.zero_le _), hf.f.mono (Nat.zero_le _), hf.dv⟩
theorem new_1 (W' : World) : Calls Tryz.prog 17 #[.int .i64 1, .int .i64 1, .slice (some ⟨W'.heap.size, 0, none⟩) 1 1] (W'.alloc (.cells #[.int .i64 1] 3)) fun e w' => ∃ x', e = .returned (.tuple #[.agg (pc 1 (pnew 1 1) x'), .int .i64 0]) ∧ Pf 0 w' 1 (pnew 1 1) x' ∧ Bel W' w' :=
  (new_any (n := 1) (id := 1) (wait := 1) (sl_new3 W' [1]) (by decide) (by decide) (by decide)).mono (fun _ _ ⟨x', he, hf, hb⟩ => ⟨x', he, hf.low, ((Bel.refl W').alloc _).trans hb⟩)
theorem ltick_1 (W' : World) (x' : Px) (hp : Pf 0 W' 1 (pnew 1 1) x') : Calls Tryz.prog 42 #[.agg (pc 1 (pnew 1 1) x'), .int .i64 0] W' fun e w' => ∃ x2 aA cA, e = .returned (.tuple #[.agg (pc 1 q1 x2), .slice aA 0 cA, .int .i64 0]) ∧ Pf 0 w' 1 q1 x2 ∧ Bel W' w' := by
  have := ltick_win hp.pq (pnew_ok (n := 1) (id := 1) (wait := 1) (by decide) (by decide)) (by decide) (by decide) (by decide) 0 (by decide) (by decide) tick_1 ok_s1 (by decide) rfl
  rw [adv_1] at this
  exact this.mono (fun _ _ ⟨x2, aA, cA, he, hf, hb⟩ => ⟨x2, aA, cA, he, hf.low, hb⟩)
theorem prop_q (W' : World) (x' : Px) (d : ByteArray) (hd : d.size ≤ 1048576) (hp : Pf 0 W' 1 q1 x') : Calls Tryz.prog 16 #[.agg (pc 1 q1 x'), .string d] W' fun e w' => ∃ x2, e = .returned (.tuple #[.agg (pc 1 (q1.prop d) x2), .int .u64 2, .int .i64 0]) ∧ Bel W' w' :=
  (prop_any hp.pq ok_q1 (by decide) (by decide) (by decide) d rfl hd).mono (fun _ _ ⟨x2, he, _, hb⟩ => ⟨x2, he, hb⟩)
theorem prop_p (W' : World) (x' : Px) (d : ByteArray) (hp : Pf 0 W' 1 (pnew 1 1) x') : Calls Tryz.prog 16 #[.agg (pc 1 (pnew 1 1) x'), .string d] W' fun e w' => e = .returned (.tuple #[.agg (pc 0 p0 x0), .int .u64 0, .int .i64 140]) ∧ Bel W' w' :=
  prop_lead hp.pq (pnew_ok (n := 1) (id := 1) (wait := 1) (by decide) (by decide)) (by decide) (by decide) (by decide) d (by decide)
theorem prop_z (W' : World) (x' : Px) (d : ByteArray) (hd : 1048576 < d.size) (hp : Pf 0 W' 1 q1 x') : Calls Tryz.prog 16 #[.agg (pc 1 q1 x'), .string d] W' fun e w' => e = .returned (.tuple #[.agg (pc 0 p0 x0), .int .u64 0, .int .i64 4]) ∧ Bel W' w' :=
  prop_long hp.pq ok_q1 (by decide) (by decide) (by decide) d rfl hd
set_option maxRecDepth 100000 in
set_option maxHeartbeats 4000000 in
theorem alive_l {W : World} : Calls Tryz.prog 13 #[] W fun e w' => e = .returned (.bool true) ∧ Bel W w' := by
  have HN := hide new_1
  have HT := hide ltick_1
  have HPQ := hide (fun W' x' => prop_q W' x' ⟨#[120]⟩ (by decide))
  have HPP := hide (fun W' x' => prop_p W' x' ⟨#[120]⟩)
  obtain ⟨r1, hr1⟩ : ∃ r1, r1 = q1.prop ⟨#[120]⟩ := ⟨_, rfl⟩
  rw [← hr1] at HPQ
  have HC : Hid (r1.commit = 2) := hide (by rw [hr1]; exact (prop_1 _).1)
  clear hr1
  go_enter Tryz.func13, Tryz.ntmps13
  go_wp2_with (first
    | go_skip
    | go_guarded
    | (go_at_call 17; refine ((unhide HN) _).mono ?_; rintro e w1 ⟨x1, rfl, hp1, hb1⟩; have HP := hide hp1; have HB := hide hb1; clear hp1 hb1)
    | (refine bx_new rfl 56 rfl _ Tryz.zero32 ?_; intro b w4 hr4 hs4 hb4; have HQ := hide (And.intro hr4 (And.intro hs4 hb4)); clear hr4 hs4 hb4)
    | (refine bx_st rfl 56 (.tmp 1) _ rfl b (pc 1 (pnew 1 1) x1) _ rfl rfl (unhide HQ).1 (Tryz.size32 _ _ _) rfl (pc_one _ _ _) ?_; intro w5 hr5 hc5; have hbb := bel_off (unhide HQ).2.2 hc5 (Nat.le_of_eq (unhide HQ).2.1); have HR1 := hide hr5; have HP := hide ((unhide HP).bel hbb); have HB := hide ((unhide HB).trans hbb); clear hr5 hc5 hbb)
    | (refine bx_ldH 56 (.tmp 1) (by exact rfl) _ (by exact rfl) (by exact rfl) (pc 1 (pnew 1 1) x1) _ (unhide HR1) Tryz.underlying56 (Tryz.size32 _ _ _) ?_)
    | (go_at_call 42; refine ((unhide HT) _ _ (unhide HP)).mono ?_; rintro e w2 ⟨x2, aA, cA, rfl, hp2, hb2⟩; have HP2 := hide hp2; have HR1 := hide (hb2.row (unhide HR1)); have HP := hide ((unhide HP).bel hb2); have HB := hide ((unhide HB).trans hb2); clear hp2 hb2)
    | (refine bx_st rfl 56 (.tmp 3) _ rfl b (pc 1 q1 x2) _ rfl rfl (unhide HQ).1 (Tryz.size32 _ _ _) rfl (pc_one _ _ _) ?_; intro w5 hr5 hc5; have hbb := bel_off (unhide HQ).2.2 hc5 (Nat.le_of_eq (unhide HQ).2.1); have HR3 := hide hr5; have HR1 := hide (hbb.row (unhide HR1)); have HP2 := hide ((unhide HP2).bel hbb); have HP := hide ((unhide HP).bel hbb); have HB := hide ((unhide HB).trans hbb); clear hr5 hc5 hbb)
    | (refine bx_ldH 56 (.tmp 3) (by exact rfl) _ (by exact rfl) (by exact rfl) (pc 1 q1 x2) _ (unhide HR3) Tryz.underlying56 (Tryz.size32 _ _ _) ?_)
    | (go_at_call 16; refine ((unhide HPQ) _ _ (unhide HP2)).mono ?_; rintro e w3 ⟨x3, rfl, hb3⟩; have HR3 := hide (hb3.row (unhide HR3)); have HR1 := hide (hb3.row (unhide HR1)); have HP := hide ((unhide HP).bel hb3); have HB := hide ((unhide HB).trans hb3); clear hb3 HPQ)
    | (refine bx_st rfl 56 (.tmp 6) _ rfl b (pc 1 r1 x3) _ rfl rfl (unhide HQ).1 (Tryz.size32 _ _ _) rfl (pc_one _ _ _) ?_; intro w5 hr5 hc5; have hbb := bel_off (unhide HQ).2.2 hc5 (Nat.le_of_eq (unhide HQ).2.1); have HR6 := hide hr5; have HR3 := hide (hbb.row (unhide HR3)); have HR1 := hide (hbb.row (unhide HR1)); have HP := hide ((unhide HP).bel hbb); have HB := hide ((unhide HB).trans hbb); clear hr5 hc5 hbb)
    | (go_at_call 16; refine ((unhide HPP) _ _ (unhide HP)).mono ?_; rintro e w7 ⟨rfl, hb7⟩; have HR6 := hide (hb7.row (unhide HR6)); have HR3 := hide (hb7.row (unhide HR3)); have HB := hide ((unhide HB).trans hb7); clear hb7)
    | (refine bx_st rfl 56 (.tmp 9) _ rfl b (pc 0 p0 x0) _ rfl rfl (unhide HQ).1 (Tryz.size32 _ _ _) rfl (pc_one _ _ _) ?_; intro w5 hr5 hc5; have hbb := bel_off (unhide HQ).2.2 hc5 (Nat.le_of_eq (unhide HQ).2.1); have y4 := (Bx.of (hbb.row (unhide HR3))).c4; have y11 := (Bx.of (hbb.row (unhide HR6))).c11; rw [unhide HC] at y11; have HB := hide ((unhide HB).trans hbb); clear hr5 hc5 hbb))
  go_ret
  exact ⟨rfl, unhide HB⟩
end Go.Proofs.YthipgcojbhcdgaaGreat
namespace Go.Proofs.YthipgcojbhcdgaaGreat
open Go.RowKit Go.Maps Go.Sort
def RowA (W : World) (g off : Nat) (S : List Act4) : Prop := ∀ j (h : j < S.length), W.cell? ⟨g, off + j * 4, none⟩ = some (.int .i64 S[j].op) ∧ W.cell? ⟨g, off + j * 4 + 1, none⟩ = some (.int .i64 S[j].a) ∧ W.cell? ⟨g, off + j * 4 + 2, none⟩ = some (.int .i64 S[j].n) ∧ W.cell? ⟨g, off + j * 4 + 3, none⟩ = some (.bool S[j].keep)
/-- A group behind k steps. -/
def Gr (W : World) (n b gP cP k : Nat) (w : World) : Prop := ∃ vW vD L Q dn, Gk W n b gP cP k vW vD L Q dn w
set_option maxRecDepth 100000 in
set_option maxHeartbeats 16000000 in
theorem llk_law {W : World} {size : Int} {S : List Act4} {a1 : Option Addr} {c1 g1 o1 : Nat} (ha : S.length ≠ 0 → a1 = some ⟨g1, o1, none⟩) (hS : RowA W g1 o1 S) : Calls Tryz.prog 4 #[.int .i64 size, .slice a1 S.length c1] W fun e w' => e = .returned (.bool true) ∧ Bel W w' := by
  have HA := hide ha
  have HS := hide hS
  obtain ⟨z, hz, hzb⟩ := i64_mask size 65535 (by decide)
  have hzb' : bits .and .i64 size 65535 = (z : Int) := hzb
  clear ha hS hz hzb
  obtain ⟨n, hn1, hn5, hnz⟩ : ∃ n : Nat, 1 ≤ n ∧ n ≤ 5 ∧ 1 + (z : Int) % 5 = (n : Int) := ⟨1 + z % 5, by omega, by omega, by omega⟩
  have hzt : (z : Int).tmod 5 = (z : Int) % 5 := Int.tmod_eq_emod_of_nonneg (by omega)
  have hw1 : IntKind.i64.wrap (1 + (z : Int) % 5) = (n : Int) := by rw [hnz]; exact wrapI (by omega) (by omega)
  have HBe := hide (fun W' : World => begin_any (W := W') hn1 hn5)
  go_enter Tryz.func4, Tryz.ntmps4
  go_wp2_with (first
    | (go_at_call 13; refine alive_l.mono ?_; rintro e w1 ⟨rfl, hb1⟩; have HB1 := hide hb1; clear hb1)
    | (go_at_call 14; (try rw [hnz]); refine ((unhide HBe) w1).mono ?_; rintro e w2 ⟨b, gP, cP, L, rfl, hgk, hnw⟩; have HG : Hid (Gr w1 n b gP cP 0 w2) := hide ⟨_, _, _, _, _, hgk⟩; clear hgk hnw HBe))
  clear hnz hw1 hzt hzb'
  generalize hNS : S.length = N at *
  have HNS := hide hNS
  clear hNS
  go_loopw [7] (fun v7 wr => ∃ k : Nat, k ≤ 300 ∧ k ≤ N ∧ v7 = .int .i64 k ∧ Hid (Gr w1 n b gP cP k wr)) (fun v7 _ => 301 - (intOf v7).toNat)
  case atStart => exact ⟨0, Nat.zero_le _, Nat.zero_le _, rfl, HG⟩
  case round =>
    clear HG
    obtain ⟨k, hk, hkN, rfl, HG⟩ := hrel
    have HBW : Hid (Bel W wr) := hide (by obtain ⟨_, _, _, _, _, h⟩ := unhide HG; exact (unhide HB1).trans h.gs.bel)
    by_cases hkS : k < N
    · have hi1 : (k : Int) < (N : Int) := by omega
      by_cases hk3 : k < 300
      · have hi2 : (k : Int) < 300 := by omega
        have hkl : k < S.length := by rw [unhide HNS]; exact hkS
        obtain rfl := (unhide HA) (by omega)
        obtain ⟨r0, r1, r2, r3⟩ := (unhide HS) k hkl
        replace r0 := (unhide HBW).cell r0
        replace r1 := (unhide HBW).cell r1
        replace r2 := (unhide HBW).cell r2
        replace r3 := (unhide HBW).cell r3
        obtain ⟨ma, hma, hmab⟩ := i64_mask S[k].a 65535 (by decide)
        obtain ⟨mn, hmn, hmnb⟩ := i64_mask S[k].n 65535 (by decide)
        have HSt : Hid (Calls Tryz.prog 15 #[.pointer (some ⟨b, 0, none⟩), .agg #[.int .i64 S[k].op, .int .i64 S[k].a, .int .i64 S[k].n, .bool S[k].keep], .int .i64 (k : Int)] wr fun e w' => e = .returned (.bool true) ∧ Gr w1 n b gP cP (k + 1) w') := hide (by
          obtain ⟨vW, vD, L, Q, dn, h⟩ := unhide HG
          refine (step_any h hn1 (by omega) (by omega) S[k] (k : Int) ma mn hmab hmnb).mono ?_
          rintro e w' ⟨g', ⟨he, vW', vD', L', Q', dn', h', _⟩, _⟩
          exact ⟨he, _, _, _, _, _, h'⟩)
        clear hmab hmnb hma hmn
        generalize S[k].op = op at *
        generalize S[k].a = za at *
        generalize S[k].n = zn at *
        generalize S[k].keep = kp at *
        go_wp2_with (first
          | (go_at_call 15; refine (unhide HSt).mono ?_; rintro e w5 ⟨rfl, hg5⟩; have HG5 := hide hg5; clear hg5))
        go_roundw
        case rel => exact ⟨k + 1, by omega, by omega, by go_num, HG5⟩
        case measure => simp [intOf]; omega
      · have hi2 : ¬ ((k : Int) < 300) := by omega
        go_wp2_with fail
        go_ret
        exact ⟨rfl, unhide HBW⟩
    · have hi1 : ¬ ((k : Int) < (N : Int)) := by omega
      go_wp2_with fail
      go_ret
      exact ⟨rfl, unhide HBW⟩
end Go.Proofs.YthipgcojbhcdgaaGreat
