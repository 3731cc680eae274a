/- The law's Holds: what one member has committed is what was committed; logs are alike; who leads is written down. -/
import Derived.Test.YthekbhliokcpcaaGreatT28
import Derived.Test.YthekbhliokcpcaaGreatT32
namespace Go.Proofs.YthekbhliokcpcaaGreat
open Go.RowKit Go.Maps Go.Sort
section
variable {o : Oper} {a : Act} {w : World}
theorem one_runE {α : Type} (E : El α) (x : Operand) (v : α) (ho : o.op = .buildSlice E.t 1 #[(0, x)]) (hx : a.eval x = .agg (E.enc v).toArray) (hsm : ¬ 1 * E.k > 2 ^ 24) : (execOp a.eval o).run Tryz.prog w = .ok (.value (.slice (some ⟨w.heap.size, 0, none⟩) 1 1)) (w.alloc (.cells (E.enc v).toArray E.e)) := by
 unfold execOp
 have h2 := run_one E w (E.enc v).toArray (by simp [E.len]) hsm
 simp only [ho, List.map_toArray, List.map_cons, List.map_nil, hx, Sem.run_bind, h2, Result.andThen_ok, Sem.run_pure]
theorem ent_run (x : Operand) (ho : o.op = .load 53 x) (g p : Nat) (hx : a.eval x = .pointer (some ⟨g, p, none⟩)) {y : GE × GA} (h : EG.R w g p [y]) : (execOp a.eval o).run Tryz.prog w = .ok (.value (.agg (encG y).toArray)) w := by
 obtain ⟨i0, hi0, _, hz1, _⟩ := EG.info
 have hr : w.rangeAt g p (encG y) := fun j v hv => by
  have := h 0 (by simp) j v hv
  rwa [Nat.zero_mul, Nat.add_zero] at this
 unfold execOp
 have := run_loadVar_mid (P := Tryz.prog) w g p 53 (encG y) _ hr Tryz.underlying53 rfl (by rw [show (53 : Nat) = EG.e from rfl, hi0]; simp [hz1]; rfl)
 simp only [ho, hx, Instr.loadAt, Instr.sureAddr, Sem.run_bind, Sem.run_pure, Result.andThen_ok, this]
end
theorem mu_run {o : Oper} {a : Act} {w w' : World} (x y z : Operand) (ho : o.op = .mapUpdate 48 x y z) {m k v : Value} (hx : a.eval x = m) (hy : a.eval y = k) (hz : a.eval z = v) (hrun : (Instr.mapUpdate 48 m k v).run Tryz.prog w = .ok () w') : (execOp a.eval o).run Tryz.prog w = .ok .skip w' := by
 unfold execOp
 simp only [ho, hx, hy, hz, Sem.run_bind, hrun, Result.andThen_ok, Sem.run_pure]
theorem quiet_look {C : World → Prop} {K : Act → Prop} {a : Act} {o : Oper} (bM : Nat) (k v : Value) (x y : Operand) (ho : o.op = .lookup 48 x y false) (hx : a.eval x = .map (some bM)) (hy : a.eval y = k) (hr : ∀ w, C w → (Instr.lookup 48 (.map (some bM)) k false).run Tryz.prog w = .ok v w) (hk : K (a.put o.dst v)) : o.quiet Tryz.prog a C K :=
 ⟨_, fun w hw => by
  have : (execOp a.eval o).run Tryz.prog w = .ok (.value v) w := by
   unfold execOp
   simp only [ho, hx, hy, Sem.run_bind, hr w hw, Result.andThen_ok, Sem.run_pure]
  unfold Oper.quietAt
  rw [this]
  exact ⟨rfl, rfl⟩, hk⟩
theorem mkT_inj : ∀ x y, mkT x = mkT y → x = y := fun x y h => by
 injection h
theorem ldF_upd {ld : Int → Int} {t i : Int} (h : i ≠ 0) : upd (ldF ld) t (some (.int .i64 i)) = ldF (fun u => if u = t then i else ld u) := by
 funext u
 unfold upd ldF
 by_cases c : u = t
 ·simp [c, h]
 ·simp [c]
def dnI (dn : List PE) (s : PP) (i : Nat) : List PE := dn ++ (s.log.take i).drop dn.length
theorem dnI_start (dn : List PE) (s : PP) : dnI dn s dn.length = dn := by
 unfold dnI
 rw [List.drop_of_length_le (by simp; omega), List.append_nil]
theorem dnI_succ (dn : List PE) (s : PP) {i : Nat} (h1 : dn.length ≤ i) (h2 : i < s.log.length) : dnI dn s (i + 1) = dnI dn s i ++ [s.log[i]] := by
 unfold dnI
 rw [List.take_add_one, List.getElem?_eq_getElem h2, List.append_assoc]
 congr 1
 rw [List.drop_append_of_le_length (by simp; omega)]
 rfl
theorem dnI_len (dn : List PE) (s : PP) {i : Nat} (h1 : dn.length ≤ i) (h2 : i ≤ s.log.length) : (dnI dn s i).length = i := by
 unfold dnI
 simp
 omega
theorem dnI_end (dn : List PE) (s : PP) {i : Nat} (h1 : dn.length ≤ i) (h2 : i ≤ max dn.length s.commit) (h3 : s.commit ≤ i) : dnI dn s i = doneUp dn s := by
 unfold dnI doneUp
 by_cases h : s.commit = i
 ·rw [h]
 ·have : i = dn.length := by omega
  subst this
  rw [List.drop_of_length_le (by simp; omega), List.drop_of_length_le (by simp; omega)]
theorem Al.dnlen {ld : Int → Int} {n T G : Nat} {ps : List PP} {way : List QM} {dn : List PE} (h : Al ld n T G ps way dn) : dn.length ≤ G := by
 obtain ⟨g, h⟩ := h
 by_cases h0 : dn.length = 0
 ·omega
 ·obtain ⟨t, j, c1, c2, c3⟩ := h.dn (dn.length - 1) (by omega)
  have h1 := c3.length_le
  have h2 := h.lb t
  simp at h1
  omega
theorem El.O.at1 {base : Nat} {w : World} {g m cap : Nat} {l : List (GE × GA)} (h : EG.O base w (.slice (some ⟨g, 0, none⟩) m cap) l) {k : Nat} (hk : k < l.length) : EG.R w g (k * 4) [l[k]] := by
 obtain ⟨a', c', g', e, h1, h2, _⟩ := h.shape
 injection e with e1
 have := h1 (by omega)
 rw [← e1] at this
 injection this with this
 injection this with this
 subst this
 intro j hj c u hu
 obtain rfl : j = 0 := by simp at hj; omega
 have := h2 k hk c u hu
 rw [Nat.zero_add] at this
 rw [Nat.zero_mul, Nat.add_zero]
 exact this
theorem Sl.one1 {w : World} {g o : Nat} {x : GE × GA} (h : EG.R w g o [x]) : Sl EG w (some ⟨g, o, none⟩) [x] := ⟨g, o, fun _ => rfl, h⟩
section
variable {W w w' : World} {n b gP cP bM km T G : Nat} {vW vD : Value} {L : List (GP × Px)} {Q : List (GM × GX)} {D : List (GE × GA)} {ld : Int → Int} {M : List (PP × Nat)} {gw : List QM} {dn : List PE} {σ : Nat → ByteArray}
theorem Gs.adr (h : Gs W n b gP cP bM km vW vD L Q D ld w) {j : Nat} (hj : j < L.length) {s : GP} {x : Px} (e : L[j] = (s, x)) (h0 : s.log.length ≠ 0) : ∃ g off, x.aL = some ⟨g, off, none⟩ := by
 have h1 := (h.gt _ (List.getElem_mem hj)).1.l
 rw [e] at h1
 obtain ⟨LL, q1, ⟨⟨g, off, q2, _⟩, _⟩, _⟩ := h1
 exact ⟨g, off, q2 (by rw [← q1, List.length_map] at h0; exact h0)⟩
theorem Gs.capL (h : Gs W n b gP cP bM km vW vD L Q D ld w) {j : Nat} (hj : j < L.length) {s : GP} {x : Px} (e : L[j] = (s, x)) : s.log.length ≤ x.cL := by
 have h1 := (h.gt _ (List.getElem_mem hj)).2.1
 rwa [e] at h1
theorem Gs.oneL (h : Gs W n b gP cP bM km vW vD L Q D ld w) {j : Nat} (hj : j < L.length) {s : GP} {x : Px} (e : L[j] = (s, x)) {g off : Nat} (ha : x.aL = some ⟨g, off, none⟩) {k : Nat} (hk : k < s.log.length) : ∃ y : GE × GA, y.1 = s.log[k] ∧ SlT EG w (some ⟨g, off + k * 4, none⟩) [y] ∧ SlT E3 w y.2.a y.1.m := by
 have h1 := (h.gt _ (List.getElem_mem hj)).1.l
 rw [e] at h1
 obtain ⟨LL, q1, ⟨⟨g', off', q2, q3⟩, q5⟩, q4⟩ := h1
 have hl : LL.length = s.log.length := by rw [← q1, List.length_map]
 have e2 := q2 (by omega)
 rw [ha] at e2
 injection e2 with e2
 injection e2 with e3 e4
 subst e3 e4
 have hk' : k < LL.length := by omega
 refine ⟨LL[k], ?_, ⟨⟨g, off + k * 4, fun _ => rfl, fun i hi c u hu => ?_⟩, fun g2 o2 _ e9 => ?_⟩, q4 _ (List.getElem_mem hk')⟩
 ·have : s.log[k] = (LL.map (·.1))[k]'(by rw [q1]; exact hk) := by simp [q1]
  rw [this, List.getElem_map]
 ·obtain rfl : i = 0 := by simp at hi; omega
  have := q3 k hk' c u hu
  rw [Nat.zero_mul, Nat.add_zero]
  exact this
 ·injection e9 with e9
  injection e9 with e9
  subst e9
  exact q5 g off (by omega) ha
theorem SlT.r1 {w : World} {g o : Nat} {y : GE × GA} (h : SlT EG w (some ⟨g, o, none⟩) [y]) : EG.R w g o [y] := by
 obtain ⟨⟨g', o', q1, q2⟩, _⟩ := h
 have e := q1 (by simp)
 injection e with e
 injection e with e1 e2
 subst e1 e2
 exact q2
structure Hh (W : World) (n b gP cP bM km : Nat) (vW vD : Value) (L : List (GP × Px)) (Q : List (GM × GX)) (D : List (GE × GA)) (ld : Int → Int) (b5 : Nat) (s : GP) (x : Px) (w : World) : Prop where
 gs : Gs W n b gP cP bM km vW vD L Q D ld w
 row : w.heap[b5]? = some (.cells (gc s x) 31)
theorem Hh.next {b5 : Nat} {s : GP} {x : Px} (h : Hh W n b gP cP bM km vW vD L Q D ld b5 s x w) (hb : Bel w w') : Hh W n b gP cP bM km vW vD L Q D ld b5 s x w' := ⟨h.gs.next hb, hb.row h.row⟩
section
variable {ops : Array Oper} {rest : List Oper} {o : Oper} {a : Act} {Q' : Exit → Act → World → Prop}
theorem elp_ld (x : Operand) (g i : Nat) (s : GP) (z : Px) {base cap m : Nat} {L : List (GP × Px)} (h : EPg.O base W (.slice (some ⟨g, 0, none⟩) m cap) L) (hi : i < L.length) (e : L[i] = (s, z)) (hgd : o.guard = none) (ho : o.op = .load 31 x) (hx : a.eval x = .pointer (some ⟨g, i * 18, none⟩))
  (hK : wpList Tryz.prog ops Q' rest (a.put o.dst (.agg (gc s z))) W) : wpList Tryz.prog ops Q' (o :: rest) a W := el_ld hgd x ho g i hx h hi Tryz.underlying31 (gc s z) (by rw [e]; rfl) hK
theorem bxp_new (hgd : o.guard = none) (ho : o.op = .alloc 31)
  (hK : ∀ b w', w'.heap[b]? = some (.cells (gc g0 y0) 31) → W.heap.size = b → Bel W w' → wpList Tryz.prog ops Q' rest (a.put o.dst (.pointer (some ⟨b, 0, none⟩))) w') : wpList Tryz.prog ops Q' (o :: rest) a W := bx_new hgd 31 ho _ Tryz.zeroP hK
theorem bxp_st (x y : Operand) (b : Nat) (s : GP) (z : Px) {s2 : GP} {z2 : Px} (hg : W.heap[b]? = some (.cells (gc s2 z2) 31)) (hgd : o.guard = none) (ho : o.op = .store 31 x y) (hx : a.eval x = .pointer (some ⟨b, 0, none⟩)) (hy : a.eval y = .agg (gc s z))
  (hK : ∀ w', w'.heap[b]? = some (.cells (gc s z) 31) → Ch (fun k => k = b) W w' → wpList Tryz.prog ops Q' rest (a.put o.dst undef) w') : wpList Tryz.prog ops Q' (o :: rest) a W := bx_st hgd 31 x y ho b (gc s z) _ hx hy hg (zP _ _) rfl (gc_one _ _) hK
end
set_option maxRecDepth 100000 in
set_option maxHeartbeats 16000000 in
theorem holds_g (h : Gs W n b gP cP bM km vW vD L Q D ld w) (hM : L.map (·.1) = M.map (fun m => rl n σ m.1 m.2)) (hal : Al ld n T G (M.map (·.1)) gw dn) (hD : D.map (·.1) = dn.map PE.g) (hn : n ≤ 64) (hG : G ≤ 900000) (hT : T ≤ 900000) (hkm : km ≤ 900000) (hb : ∀ m ∈ M, m.2 ≤ m.1.commit) (hd : ∀ m ∈ M, m.1.log.take m.2 <+: dn) {q : Nat} (hq : q < L.length) {p : PP} {c : Nat} {x : Px} (hsx : L[q] = (rl n σ p c, x)) (hmq : M[q]? = some (p, c)) : Calls Tryz.prog 33 #[.pointer (some ⟨b, 0, none⟩), .int .i64 (q : Int)] w fun e w' => e = .returned (.bool true) ∧ ∃ vD' D' ld' km', km' ≤ km + 1 ∧ Gs W n b gP cP bM km' vW vD' L Q D' ld' w' ∧ D'.map (·.1) = (doneUp dn p).map PE.g ∧ Al ld' n T G (M.map (·.1)) gw (doneUp dn p) := by
 have hln := h.len
 have hdn := hal.dnlen
 have hDl : D.length = dn.length := by rw [← List.length_map (f := fun y : GE × GA => y.1), hD, List.length_map]
 have hMl : M.length = L.length := by have := congrArg List.length hM; simpa using this.symm
 have hqM : q < M.length := by omega
 have hMq : M[q] = (p, c) := by rw [List.getElem?_eq_getElem hqM] at hmq; exact Option.some.inj hmq
 obtain ⟨D0, hD0⟩ : ∃ D0, D0 = doneUp dn p := ⟨_, rfl⟩
 rw [← hD0]
 have HD0 := jd hD0
 clear hD0
 have hqm : q < (M.map (·.1)).length := by simpa using hqM
 have hgm : (M.map (·.1))[q] = p := by simp [hMq]
 have hok : Ok n T G p ∧ p.id = (q : Int) + 1 := by have := hal.ok hqm; rwa [hgm] at this
 have hgl := hok.1.glen
 have hcom := hok.1.com
 have hcb : c ≤ p.commit := by have := hb _ (List.getElem_mem hqM); rwa [hMq] at this
 have hcd : c ≤ dn.length := by
  have := hd _ (List.getElem_mem hqM)
  rw [hMq] at this
  have := this.length_le
  simp at this
  omega
 have hqn : (q : Int) < n := by omega
 have hwc : IntKind.i64.wrap (p.commit : Int) = (p.commit : Int) := wrapI (by omega) (by omega)
 obtain ⟨aD, cD, gD, eD, _, _, _⟩ := h.dO.shape
 rw [hDl] at eD
 subst eD
 have hidb : ∀ j (hj : j < L.length), ∃ p' c' x', L[j] = (rl n σ p' c', x') ∧ M[j]? = some (p', c') ∧ c' ≤ p'.commit ∧ p'.commit ≤ p'.log.length ∧ p'.log.length ≤ 900000 := fun j hj => by
  have hjM : j < M.length := by omega
  have e1 : L[j].1 = rl n σ M[j].1 M[j].2 := by
   have h1 : (L.map (·.1))[j]? = (M.map (fun m => rl n σ m.1 m.2))[j]? := by rw [hM]
   simpa [hj, hjM] using h1
  have h2 := (hal.ok (show j < (M.map (·.1)).length by simpa using hjM)).1
  simp only [List.getElem_map] at h2
  have h3 := h2.glen
  have h4 := h2.com
  exact ⟨M[j].1, M[j].2, L[j].2, by rw [← e1], by rw [List.getElem?_eq_getElem hjM], hb _ (List.getElem_mem hjM), h4, by omega⟩
 have hw0 : IntKind.i64.wrap ((dn.length : Int) + 1) = (dn.length : Int) + 1 := wrapI (by omega) (by omega)
 have y0 := h.c0
 have HG := jd h
 have HAL0 := jd hal
 have HSX := jd hsx
 have HQL : Hid (q < L.length) := jd hq
 have HOK := jd hok
 have HID := jd hidb
 have HDM := jd hD
 have HMM := jd (aI hMl hmq)
 have HBD : Hid (dn.length ≤ 900000 ∧ p.log.length ≤ 900000 ∧ p.commit ≤ p.log.length ∧ n ≤ 64 ∧ n = L.length ∧ c ≤ p.commit ∧ c ≤ dn.length ∧ km ≤ 900000) := jd ⟨by omega, by omega, hcom, hn, hln.symm, hcb, hcd, hkm⟩
 have HSL : Hid ((rl n σ p c).log.length = p.log.length - c) := jd (by simp [rl])
 have hlc : (rl n σ p c).commit = (p.commit : Int) := rfl
 have hlb : (rl n σ p c).base = (c : Int) := rfl
 have HSE : Hid (∀ k (hk : k < (rl n σ p c).log.length) (hk2 : c + k < p.log.length), (rl n σ p c).log[k] = PE.g p.log[c + k]) := jd (fun k hk hk2 => by simp [rl])
 obtain ⟨s, hs⟩ : ∃ s, s = rl n σ p c := ⟨_, rfl⟩
 rw [← hs] at HSX HSL hlc hlb HSE
 have HRL := jd hs
 clear h hal hsx hok hdn hgl hqm hgm hln hM hD hcb hcd hcom hidb hs hDl hMl hqM hMq hmq hkm hb hd
 go_enter Tryz.func33, Tryz.ntmps33
 go_wp2_with (first
  | go_skip
  | (with_reducible refine elp_ld (.tmp 29) gP q s x (ju HG).row (ju HQL) (ju HSX) ?_ ?_ ?_ ?_; exact rfl; exact rfl; (first | exact rfl | simp [Act.eval]))
  | (with_reducible refine bxp_new ?_ ?_ ?_; exact rfl; exact rfl; intro b5 w3 hr3 hs3 hb3; have HR3 := jd (aI hr3 (aI hs3 hb3)); clear hr3 hs3 hb3)
  | (with_reducible refine bxp_st (.tmp 5) (.tmp 30) b5 s x (ju HR3).1 ?_ ?_ ?_ ?_ ?_; exact rfl; exact rfl; (first | exact rfl | simp [Act.put, Act.eval]); (first | exact rfl | simp [Act.put, Act.eval]); intro w4 hr4 hc4; have HS : Hid (Hh W n b gP cP bM km vW (.slice aD dn.length cD) L Q D ld b5 s x w4) := jd ⟨(ju HG).next (bel_off (ju HR3).2.2 hc4 (Nat.le_of_eq (ju HR3).2.1)), hr4⟩; have y2 := (ju HS).gs.c2; clear hr4 hc4 HR3 HG))
 go_loopw [6] (fun v6 wr => ∃ (i : Nat) (aD : Option Addr) (cD : Nat) (Di : List (GE × GA)), dn.length ≤ i ∧ i ≤ max dn.length p.commit ∧ v6 = .int .i64 ((i : Int) + 1) ∧ Hid (Hh W n b gP cP bM km vW (.slice aD i cD) L Q Di ld b5 s x wr) ∧ Hid (Di.map (·.1) = (dnI dn p i).map PE.g)) (fun v6 _ => max dn.length p.commit + 1 - (intOf v6).toNat)
 case atStart => exact ⟨dn.length, aD, cD, D, Nat.le_refl _, Nat.le_max_left _ _, by first | rfl | rw [hw0], HS, jd (by rw [dnI_start]; exact ju HDM)⟩
 case round =>
  clear y0 y2 HS HDM
  obtain ⟨i, aD, cD, Di, hi1, hi2, rfl, HS, HDM⟩ := hrel
  have y11 := (Bg.of (ju HS).row).c11
  rw [hlc] at y11
  by_cases hlt : i < p.commit
  ·have hil : i < p.log.length := by have := ju HBD; omega
   have hli : (i : Int) + 1 ≤ (p.commit : Int) := by omega
   have hci : c ≤ i := by have := ju HBD; omega
   have hi9 : i ≤ 900000 := by have := ju HBD; omega
   obtain ⟨k, hk⟩ : ∃ k, i = c + k := ⟨i - c, by omega⟩
   have hks : k < s.log.length := by rw [ju HSL]; omega
   obtain ⟨gL, oL, hgL⟩ := (ju HS).gs.adr (ju HQL) (ju HSX) (by omega)
   have hcL := (ju HS).gs.capL (ju HQL) (ju HSX)
   have hEn : Hid (∀ w1, Calls Tryz.prog 80 #[.agg (gc s x), .int .i64 ((i : Int) + 1)] w1 fun e w' => e = .returned (.tuple #[.slice (some ⟨gL, oL + k * 4, none⟩) 1 (x.cL - k), .bool true]) ∧ Bel w1 w') := jd (fun w1 => entry_yes hgL (by rw [hlb]; have := ju HBD; omega) (by rw [ju HSL]; have := ju HBD; omega) hcL k hks _ (by rw [hlb]; omega))
   have hxk : k < x.cL := by omega
   have HDL : Hid ((dnI dn p i).length = i) := jd (dnI_len dn p hi1 (by omega))
   have HDS : Hid (dnI dn p (i + 1) = dnI dn p i ++ [p.log[i]'hil]) := jd (dnI_succ dn p hi1 hil)
   have HOL : Hid (∀ w', Hh W n b gP cP bM km vW (.slice aD i cD) L Q Di ld b5 s x w' → ∃ y : GE × GA, y.1 = PE.g (p.log[i]'hil) ∧ SlT EG w' (some ⟨gL, oL + k * 4, none⟩) [y] ∧ SlT E3 w' y.2.a y.1.m) := jd (fun w' hs => by
    obtain ⟨y, q1, q2, q3⟩ := hs.gs.oneL (ju HQL) (ju HSX) hgL hks
    refine ⟨y, ?_, q2, q3⟩
    rw [q1, (ju HSE) k hks (by omega)]
    simp only [hk])
   have HK := jd hk
   have HAL := jd hgL
   have HKS := jd hks
   clear hgL hcL hk
   go_wp2_with (first
    | go_skip
    | (refine bx_ldK 31 (.tmp 5) (by exact rfl) b5 (by exact rfl) (by exact rfl) (gc s x) _ (ju HS).row Tryz.underlying31 (zP _ _) ?_)
    | (go_at_call 80; refine ((ju hEn) _).mono ?_; rintro e wq ⟨rfl, hb6⟩; replace HS := jd ((ju HS).next hb6); clear hb6)
    | go_guarded)
   have hGd := (ju HS).next (Bel.refl wq).drew
   obtain ⟨y, hy1, hyS, hm0⟩ := (ju HOL) _ hGd
   have hSS : (wq.drew).heap[b5]? = some (.cells (gc s x) 31) ∧ SlT EG wq.drew (some ⟨gL, oL + k * 4, none⟩) [y] := ⟨hGd.row, hyS⟩
   refine wp_region_held_drew (S := fun w => w.heap[b5]? = some (.cells (gc s x) 31) ∧ SlT EG w (some ⟨gL, oL + k * 4, none⟩) [y]) Tryz.follows hSS (fun hS => ?_)
   clear hSS hyS
   generalize wq.drew = wd at *
   obtain ⟨ea, hea⟩ : ∃ ea, (encG y).toArray = ea := ⟨_, rfl⟩
   have HEA := jd hea
   clear hea y11
   refine any_take (i := 0) (v := .pointer (some ⟨b, 0, none⟩)) rfl (by kernel_rfl) (fun _ _ _ h => h) rfl hS (fun w hw => by go_simp) ?_
   refine any_take (i := 1) (v := .pointer (some ⟨b, 0, none⟩)) rfl (by kernel_rfl) (fun _ _ _ h => h) rfl hS (fun w hw => by go_simp) ?_
   refine any_take (i := 2) (v := .pointer (some ⟨b, 0, none⟩)) rfl (by kernel_rfl) (fun _ _ _ h => h) rfl hS (fun w hw => by go_simp) ?_
   refine any_take (i := 3) (v := .pointer (some ⟨b, 2, none⟩)) rfl (by kernel_rfl) (fun _ _ _ h => h) rfl hS (fun w hw => by go_simp) ?_
   refine any_take (i := 5) (v := .slice (some ⟨gL, oL + k * 4, none⟩) 1 (x.cL - k)) rfl (by kernel_rfl) (fun _ _ _ h => h) rfl hS (fun w hw => by go_simp) ?_
   refine any_take (i := 6) (v := .pointer (some ⟨gL, oL + k * 4, none⟩)) rfl (by kernel_rfl) (fun _ _ _ h => h) rfl hS (fun w hw => by go_simp) ?_
   refine any_take (i := 7) (v := .agg ea) rfl (by kernel_rfl) (fun _ _ _ h => h) rfl hS (fun w hw => by rw [← ju HEA]; exact ent_run (.tmp 58) (by exact rfl) gL (oL + k * 4) (by show _ = Value.pointer (some ⟨gL, oL + k * 4, none⟩); go_simp) hw.2.r1) ?_
   have y2 := hGd.gs.c2
   have hA := (Bel.refl wd).alloc (.cells (encG y).toArray 53)
   have hGA := hGd.next hA
   have hm1 := hm0.bel hA
   have hSA : (wd.alloc (.cells (encG y).toArray 53)).heap[b5]? = some (.cells (gc s x) 31) ∧ SlT EG (wd.alloc (.cells (encG y).toArray 53)) (some ⟨gL, oL + k * 4, none⟩) [y] := ⟨hA.row hS.1, hS.2.bel hA⟩
   refine any_vv (i := 4) (j := 8) (vi := .slice aD i cD) (wi := wd) (vj := .slice (some ⟨wd.heap.size, 0, none⟩) 1 1) (wj := wd.alloc (.cells (encG y).toArray 53)) (by kernel_rfl) (by exact rfl) (by exact rfl) (by exact rfl) (by exact rfl) (by go_simp) (one_runE EG (.tmp 59) y (by exact rfl) (by show _ = Value.agg (encG y).toArray; rw [ju HEA]; go_simp) (by decide)) ⟨hS, ?_⟩ ⟨hSA, ?_⟩
   all_goals clear y2 hm0
   rotate_left
   ·have y2 := hGA.gs.c2
    refine any_do (i := 4) (v := .slice aD i cD) (w' := wd.alloc (.cells (encG y).toArray 53)) (by kernel_rfl) rfl rfl (by go_simp) ⟨hSA, ?_⟩
    clear y2
    have hnw := at_new wd (.cells (encG y).toArray 53)
    have hwd : wd.heap.size ≤ (wd.alloc (.cells (encG y).toArray 53)).heap.size := hA.size
    clear hS hGd hA
    generalize hBB : wd.heap.size = B at *
    generalize wd.alloc (.cells (encG y).toArray 53) = we at *
    have hDl : Di.length = i := by have h1 := congrArg List.length (ju HDM); have h2 := ju HDL; simp only [List.length_map] at h1; omega
    obtain ⟨g7, c7, w7, hrun, ho7, hg7, hat7⟩ := El.run_app1 (E := EG) we W.heap.size (.slice aD i cD) Di hGA.gs.dO hGA.gs.bel.size y B 1 hnw (by omega) 27
    have hap : Ap (.slice aD i cD) (some ⟨gL, oL + k * 4, none⟩) [y].length := fun _ ad e => by
     have h1 := (hGA.gs.gt _ (List.getElem_mem (ju HQL))).2.2
     rw [ju HSX] at h1
     injection e with e
     subst e
     exact h1 (by have := ju HKS; show s.log.length ≠ 0; omega) ⟨gL, oL, none⟩ (ju HAL)
    have hk7 := Kq.grownD hGA.gs.dO hg7
    have hS7 : w7.heap[b5]? = some (.cells (gc s x) 31) ∧ SlT EG w7 (some ⟨gL, oL + k * 4, none⟩) [y] := ⟨row_grown hSA.1 hGA.gs.dO hg7 (by decide), hSA.2.kq hk7 (Or.inr (Or.inl rfl)) (fun _ => hap)⟩
    rw [hDl] at hrun ho7
    refine any_do (i := 9) (v := .slice (some ⟨g7, 0, none⟩) (i + 1) c7) (w' := w7) (by kernel_rfl) rfl rfl (app_run (t := 27) (x := .tmp 56) (y := .tmp 60) (by exact rfl) (by go_simp) (by go_simp) hrun) ⟨hS7, ?_⟩
    refine any_do (i := 10) (v := .pointer (some ⟨b, 0, none⟩)) (w' := w7) (by kernel_rfl) rfl rfl (by go_simp) ⟨hS7, ?_⟩
    refine any_do (i := 11) (v := .pointer (some ⟨b, 2, none⟩)) (w' := w7) (by kernel_rfl) rfl rfl (by go_simp) ⟨hS7, ?_⟩
    have hbx7 := row_grown hGA.gs.box hGA.gs.dO hg7 (by decide)
    have hcc := ch_row (c' := grp n gP cP bM vW (.slice (some ⟨g7, 0, none⟩) (i + 1) c7)) hbx7
    have hGN := hGA.gs.joinD (D' := Di ++ [y]) (vD' := .slice (some ⟨g7, 0, none⟩) (i + 1) c7) ho7 (fun y' hy' => (List.mem_append.1 hy').elim (fun h1 => hGA.gs.dm y' h1) (fun h1 => by rw [List.mem_singleton.1 h1]; exact hm1)) hg7 (fun k hk => by cases hk; exact hat7.elim Or.inl (fun e => Or.inr (Nat.le_of_eq e.symm))) hcc.1 hcc.2
    have hS8 : (w7.setRow b (grp n gP cP bM vW (.slice (some ⟨g7, 0, none⟩) (i + 1) c7))).heap[b5]? = some (.cells (gc s x) 31) ∧ SlT EG (w7.setRow b (grp n gP cP bM vW (.slice (some ⟨g7, 0, none⟩) (i + 1) c7))) (some ⟨gL, oL + k * 4, none⟩) [y] := ⟨hcc.2.row hS7.1 (ne_kindG hS7.1 hbx7 (by decide)), hS7.2.box hbx7 (by decide) hcc.2⟩
    refine any_skip (i := 12) (w' := w7.setRow b (grp n gP cP bM vW (.slice (some ⟨g7, 0, none⟩) (i + 1) c7))) (by kernel_rfl) rfl rfl (fld_runG 27 (.tmp 63) (.tmp 61) (by exact rfl) b 2 (.slice (some ⟨g7, 0, none⟩) (i + 1) c7) (by go_simp) (by go_simp) rfl rfl (grp n gP cP bM vW (.slice aD i cD)) 50 hbx7 (by kernel_rfl) (by show 2 < 4; decide)) ⟨hS8, ?_⟩
    refine wpAnyH_done (by kernel_rfl) ?_ _
    have HSN : Hid (Hh W n b gP cP bM km vW (.slice (some ⟨g7, 0, none⟩) (i + 1) c7) L Q (Di ++ [y]) ld b5 s x (w7.setRow b (grp n gP cP bM vW (.slice (some ⟨g7, 0, none⟩) (i + 1) c7)))) := jd ⟨hGN, hS8.1⟩
    have HDN : Hid ((Di ++ [y]).map (·.1) = (dnI dn p (i + 1)).map PE.g) := jd (by rw [ju HDS, List.map_append, List.map_append, ju HDM]; simp [hy1])
    clear hGN hS8 hcc hbx7 hS7 hat7 hg7 ho7 hrun hSA hGA hnw hwd hBB hDl hk7 hap hm1
    generalize w7.setRow b (grp n gP cP bM vW (.slice (some ⟨g7, 0, none⟩) (i + 1) c7)) = wn at *
    simp [Act.put]
    go_wp2_with fail
    go_roundw
    case rel => exact ⟨i + 1, some ⟨g7, 0, none⟩, c7, Di ++ [y], by omega, by omega, (by go_num), HSN, HDN⟩
    case measure => simp [intOf]; omega
   refine any_do (i := 8) (v := .slice (some ⟨wd.heap.size, 0, none⟩) 1 1) (w' := wd.alloc (.cells (encG y).toArray 53)) (by kernel_rfl) rfl rfl (one_runE EG (.tmp 59) y (by exact rfl) (by show _ = Value.agg (encG y).toArray; rw [ju HEA]; go_simp) (by decide)) ⟨hSA, ?_⟩
   have hnw := at_new wd (.cells (encG y).toArray 53)
   have hwd : wd.heap.size ≤ (wd.alloc (.cells (encG y).toArray 53)).heap.size := hA.size
   clear hS hGd hA
   generalize hBB : wd.heap.size = B at *
   generalize wd.alloc (.cells (encG y).toArray 53) = we at *
   have hDl : Di.length = i := by have h1 := congrArg List.length (ju HDM); have h2 := ju HDL; simp only [List.length_map] at h1; omega
   obtain ⟨g7, c7, w7, hrun, ho7, hg7, hat7⟩ := El.run_app1 (E := EG) we W.heap.size (.slice aD i cD) Di hGA.gs.dO hGA.gs.bel.size y B 1 hnw (by omega) 27
   have hap : Ap (.slice aD i cD) (some ⟨gL, oL + k * 4, none⟩) [y].length := fun _ ad e => by
    have h1 := (hGA.gs.gt _ (List.getElem_mem (ju HQL))).2.2
    rw [ju HSX] at h1
    injection e with e
    subst e
    exact h1 (by have := ju HKS; show s.log.length ≠ 0; omega) ⟨gL, oL, none⟩ (ju HAL)
   have hk7 := Kq.grownD hGA.gs.dO hg7
   have hS7 : w7.heap[b5]? = some (.cells (gc s x) 31) ∧ SlT EG w7 (some ⟨gL, oL + k * 4, none⟩) [y] := ⟨row_grown hSA.1 hGA.gs.dO hg7 (by decide), hSA.2.kq hk7 (Or.inr (Or.inl rfl)) (fun _ => hap)⟩
   rw [hDl] at hrun ho7
   refine any_do (i := 9) (v := .slice (some ⟨g7, 0, none⟩) (i + 1) c7) (w' := w7) (by kernel_rfl) rfl rfl (app_run (t := 27) (x := .tmp 56) (y := .tmp 60) (by exact rfl) (by go_simp) (by go_simp) hrun) ⟨hS7, ?_⟩
   refine any_do (i := 10) (v := .pointer (some ⟨b, 0, none⟩)) (w' := w7) (by kernel_rfl) rfl rfl (by go_simp) ⟨hS7, ?_⟩
   refine any_do (i := 11) (v := .pointer (some ⟨b, 2, none⟩)) (w' := w7) (by kernel_rfl) rfl rfl (by go_simp) ⟨hS7, ?_⟩
   have hbx7 := row_grown hGA.gs.box hGA.gs.dO hg7 (by decide)
   have hcc := ch_row (c' := grp n gP cP bM vW (.slice (some ⟨g7, 0, none⟩) (i + 1) c7)) hbx7
   have hGN := hGA.gs.joinD (D' := Di ++ [y]) (vD' := .slice (some ⟨g7, 0, none⟩) (i + 1) c7) ho7 (fun y' hy' => (List.mem_append.1 hy').elim (fun h1 => hGA.gs.dm y' h1) (fun h1 => by rw [List.mem_singleton.1 h1]; exact hm1)) hg7 (fun k hk => by cases hk; exact hat7.elim Or.inl (fun e => Or.inr (Nat.le_of_eq e.symm))) hcc.1 hcc.2
   have hS8 : (w7.setRow b (grp n gP cP bM vW (.slice (some ⟨g7, 0, none⟩) (i + 1) c7))).heap[b5]? = some (.cells (gc s x) 31) ∧ SlT EG (w7.setRow b (grp n gP cP bM vW (.slice (some ⟨g7, 0, none⟩) (i + 1) c7))) (some ⟨gL, oL + k * 4, none⟩) [y] := ⟨hcc.2.row hS7.1 (ne_kindG hS7.1 hbx7 (by decide)), hS7.2.box hbx7 (by decide) hcc.2⟩
   refine any_skip (i := 12) (w' := w7.setRow b (grp n gP cP bM vW (.slice (some ⟨g7, 0, none⟩) (i + 1) c7))) (by kernel_rfl) rfl rfl (fld_runG 27 (.tmp 63) (.tmp 61) (by exact rfl) b 2 (.slice (some ⟨g7, 0, none⟩) (i + 1) c7) (by go_simp) (by go_simp) rfl rfl (grp n gP cP bM vW (.slice aD i cD)) 50 hbx7 (by kernel_rfl) (by show 2 < 4; decide)) ⟨hS8, ?_⟩
   refine wpAnyH_done (by kernel_rfl) ?_ _
   have HSN : Hid (Hh W n b gP cP bM km vW (.slice (some ⟨g7, 0, none⟩) (i + 1) c7) L Q (Di ++ [y]) ld b5 s x (w7.setRow b (grp n gP cP bM vW (.slice (some ⟨g7, 0, none⟩) (i + 1) c7)))) := jd ⟨hGN, hS8.1⟩
   have HDN : Hid ((Di ++ [y]).map (·.1) = (dnI dn p (i + 1)).map PE.g) := jd (by rw [ju HDS, List.map_append, List.map_append, ju HDM]; simp [hy1])
   clear hGN hS8 hcc hbx7 hS7 hat7 hg7 ho7 hrun hSA hGA hnw hwd hBB hDl hk7 hap hm1
   generalize w7.setRow b (grp n gP cP bM vW (.slice (some ⟨g7, 0, none⟩) (i + 1) c7)) = wn at *
   simp [Act.put]
   go_wp2_with fail
   go_roundw
   case rel => exact ⟨i + 1, some ⟨g7, 0, none⟩, c7, Di ++ [y], by omega, by omega, (by go_num), HSN, HDN⟩
   case measure => simp [intOf]; omega
  ·have hlc2 : p.commit ≤ i := by omega
   have hli : ¬ ((i : Int) + 1 ≤ (p.commit : Int)) := by omega
   have hqm : q < (M.map (·.1)).length := by have := ju HMM; rw [List.length_map]; omega
   have hgm : (M.map (·.1))[q] = p := by
    obtain ⟨h1, h2⟩ := ju HMM
    have h3 : q < M.length := by omega
    rw [List.getElem?_eq_getElem h3] at h2
    simp [Option.some.inj h2]
   have hde := dnI_end dn p hi1 hi2 hlc2
   have hDl : Di.length = i := by
    obtain ⟨a', c', g', e, _⟩ := (ju HS).gs.dO.shape
    injection e with _ e2
    exact e2.symm
   have hh1 := (ju HAL0).hold1 hqm
   rw [hgm] at hh1
   rw [hde] at HDM
   rw [← ju HD0] at hh1 HDM
   have HD1 := jd hh1
   have hD0l : D0.length = i := by have h1 := congrArg List.length (ju HDM); simp only [List.length_map] at h1; omega
   have HL0 : Hid (Di.length = i ∧ D0.length = i ∧ p.commit ≤ i) := jd ⟨hDl, hD0l, hlc2⟩
   have hi9 : i ≤ 900000 := by have h1 := (ju HD1).1.dnlen; omega
   have HDk : Hid (∀ k (hk : k < p.commit), ∃ (h1 : k < Di.length) (h2 : k < p.log.length), Di[k].1 = PE.g p.log[k]) := jd (fun k hk => by
    have hpc := (ju HBD).2.2.1
    have h1 : k < Di.length := by omega
    have h2 : k < p.log.length := by omega
    refine ⟨h1, h2, ?_⟩
    have e1 : Di[k].1 = (Di.map (·.1))[k]'(by simpa using h1) := by simp
    have e2 : (Di.map (·.1))[k]? = (D0.map PE.g)[k]? := by rw [ju HDM]
    have e3 := (ju HD1).2.getElem (i := k) (by simp; omega)
    have h3 : k < D0.length := by omega
    rw [List.getElem?_eq_getElem (by simpa using h1), List.getElem?_eq_getElem (by simpa using h3)] at e2
    have e4 := Option.some.inj e2
    rw [e1, e4, List.getElem_map, ← e3, List.getElem_take])
   have HPL : Hid (∀ w', Hh W n b gP cP bM km vW (.slice aD i cD) L Q Di ld b5 s x w' → ∀ k (hk : k < s.log.length) (gL oL : Nat), x.aL = some ⟨gL, oL, none⟩ → ∃ y : GE × GA, y.1 = PE.g (p.log[c + k]'(by have h1 := ju HSL; omega)) ∧ SlT EG w' (some ⟨gL, oL + k * 4, none⟩) [y] ∧ SlT E3 w' y.2.a y.1.m) := jd (fun w' hs k hk gL oL hgL => by
    obtain ⟨y, q1, q2, q3⟩ := hs.gs.oneL (ju HQL) (ju HSX) hgL hk
    exact ⟨y, by rw [q1, (ju HSE) k hk (by have h1 := ju HSL; omega)], q2, q3⟩)
   obtain ⟨gL, oL, HAL⟩ : ∃ gL oL, Hid (s.log.length ≠ 0 → x.aL = some ⟨gL, oL, none⟩) := by
    by_cases h0 : s.log.length = 0
    ·exact ⟨0, 0, jd (fun h => absurd h0 h)⟩
    ·obtain ⟨g1, o1, e1⟩ := (ju HS).gs.adr (ju HQL) (ju HSX) h0
     exact ⟨g1, o1, jd (fun _ => e1)⟩
   have HCL : Hid (s.log.length ≤ x.cL) := jd ((ju HS).gs.capL (ju HQL) (ju HSX))
   have HEy : Hid (∀ w1 (m k : Nat), m = c + k + 1 → k < s.log.length → Calls Tryz.prog 80 #[.agg (gc s x), .int .i64 (m : Int)] w1 fun e w' => e = .returned (.tuple #[.slice (some ⟨gL, oL + k * 4, none⟩) 1 (x.cL - k), .bool true]) ∧ Bel w1 w') := jd (fun w1 m k hm hk => entry_yes ((ju HAL) (by omega)) (by rw [hlb]; have := ju HBD; omega) (by rw [ju HSL]; have := ju HBD; omega) (ju HCL) k hk _ (by rw [hlb]; omega))
   obtain ⟨gD, HAD⟩ : ∃ gD, Hid (i ≠ 0 → aD = some ⟨gD, 0, none⟩ ∧ i ≤ cD) := by
    obtain ⟨a', c', g', e, h2, _, h3⟩ := (ju HS).gs.dO.shape
    injection e with e1 e2 e3
    exact ⟨g', jd (fun h0 => ⟨by rw [e1]; exact h2 (by omega), by rw [e3]; omega⟩)⟩
   clear hi1 hi2 HD0 hde hDl hD0l hqm hgm hh1 HAL0 HSE hlt hlc2
   go_wp2_with fail
   clear y11
   go_loopw [9] (fun v9 wr => ∃ (k : Nat), k ≤ p.commit ∧ v9 = .int .i64 ((k : Int) + 1) ∧ Hid (Hh W n b gP cP bM km vW (.slice aD i cD) L Q Di ld b5 s x wr)) (fun v9 _ => p.commit + 1 - (intOf v9).toNat)
   case atStart => exact ⟨0, Nat.zero_le _, rfl, HS⟩
   case round =>
    clear HS
    obtain ⟨k, hk, rfl, HS⟩ := hrel
    have y11 := (Bg.of (ju HS).row).c11
    rw [hlc] at y11
    by_cases hkc : k < p.commit
    ·have hkci : (k : Int) + 1 ≤ (p.commit : Int) := by omega
     have hwk : IntKind.i64.wrap ((k : Int) + 1 + 1) = ((k + 1 : Nat) : Int) + 1 := by rw [wrapI (by have := ju HBD; omega) (by have := ju HBD; omega)]; omega
     by_cases hkb : k < c
     ·have hEn : Hid (∀ w1, Calls Tryz.prog 80 #[.agg (gc s x), .int .i64 ((k : Int) + 1)] w1 fun e w' => e = .returned (.tuple #[.slice none 0 0, .bool false]) ∧ Bel w1 w') := jd (fun w1 => entry_no (by rw [hlb]; have := ju HBD; omega) (by rw [ju HSL]; have := ju HBD; omega) _ (by have := ju HBD; omega) (Or.inl (by rw [hlb]; omega)))
      go_wp2_with (first
       | go_skip
       | (refine bx_ldK 31 (.tmp 5) (by exact rfl) b5 (by exact rfl) (by exact rfl) (gc s x) _ (ju HS).row Tryz.underlying31 (zP _ _) ?_)
       | (go_at_call 80; refine ((ju hEn) _).mono ?_; rintro e wq ⟨rfl, hb6⟩; replace HS := jd ((ju HS).next hb6); clear hb6)
       | go_guarded)
      go_roundw
      case rel => exact ⟨k + 1, by omega, by first | rfl | rw [hwk] | go_num, HS⟩
      case measure => simp [intOf]; omega
     ·obtain ⟨j, hj⟩ : ∃ j, k = c + j := ⟨k - c, by omega⟩
      have hjs : j < s.log.length := by have h1 := ju HSL; have := ju HBD; omega
      have hEn : Hid (∀ w1, Calls Tryz.prog 80 #[.agg (gc s x), .int .i64 ((k : Int) + 1)] w1 fun e w' => e = .returned (.tuple #[.slice (some ⟨gL, oL + j * 4, none⟩) 1 (x.cL - j), .bool true]) ∧ Bel w1 w') := jd (fun w1 => (ju HEy) w1 (k + 1) j (by omega) hjs)
      obtain ⟨hkD, hkl, hkd⟩ := (ju HDk) k hkc
      obtain ⟨hgD, hcD⟩ := (ju HAD) (by have := (ju HL0).1; omega)
      have HSm : Hid (∀ w', Hh W n b gP cP bM km vW (.slice aD i cD) L Q Di ld b5 s x w' → Calls Tryz.prog 27 #[.slice (some ⟨gL, oL + j * 4, none⟩) 1 (x.cL - j), .slice (some ⟨gD, k * 4, none⟩) 1 (cD - k)] w' fun e w'' => e = .returned (.bool true) ∧ Bel w' w'') := jd (fun w' hs => by
       obtain ⟨y, q1, q2, q3⟩ := (ju HPL) w' hs j hjs gL oL ((ju HAL) (by omega))
       have hO := hs.gs.dO
       rw [hgD] at hO
       have r2 := hO.at1 hkD
       have r3 := hs.gs.dm _ (List.getElem_mem hkD)
       have e1 : y.1 = (Di[k]).1 := by rw [q1, hkd]; simp only [hj]
       have hm0 : y.1.m = [] := by rw [q1]; rfl
       refine (sameEnts_yes (l := [y]) (k := [Di[k]]) (Sl.one1 q2.r1) (Sl.one1 r2) (fun z hz => by rw [List.mem_singleton.1 hz]; exact q3.1) (fun z hz => by rw [List.mem_singleton.1 hz]; exact r3.1) (by simp [e1]) _ _ (by simp) (fun z hz => by rw [List.mem_singleton.1 hz, hm0]; simp)).mono ?_
       rintro e w2 ⟨h1, m2, h2⟩
       exact ⟨h1, bel_of_drew h2⟩)
      have hwm : IntKind.i64.wrap ((k : Int) + 1 - 1) = (k : Int) := by rw [wrapI (by omega) (by omega)]; omega
      have hcd1 : (k : Int) + 1 ≤ cD := by omega
      have hcd2 : ¬ cD = k := by omega
      have hkk : (k : Int) ≤ (k : Int) + 1 := by omega
      have y2 := (ju HS).gs.c2
      have HJ := jd hj
      have HGD := jd hgD
      subst hgD
      clear hj hkd
      go_wp2_with (first
       | go_skip
       | (refine bx_ldK 31 (.tmp 5) (by exact rfl) b5 (by exact rfl) (by exact rfl) (gc s x) _ (ju HS).row Tryz.underlying31 (zP _ _) ?_)
       | (go_at_call 80; refine ((ju hEn) _).mono ?_; rintro e wq ⟨rfl, hb6⟩; replace HS := jd ((ju HS).next hb6); have y2 := (ju HS).gs.c2; clear hb6)
       | (go_at_call 27; refine ((ju HSm) _ (ju HS)).mono ?_; rintro e wr2 ⟨rfl, hb7⟩; replace HS := jd ((ju HS).next hb7); clear hb7)
       | go_guarded)
      go_roundw
      case rel => exact ⟨k + 1, by omega, by first | rfl | rw [hwk] | go_num, HS⟩
      case measure => simp [intOf]; omega
    ·have hkci : ¬ ((k : Int) + 1 ≤ (p.commit : Int)) := by omega
     go_wp2_with fail
     clear y11 hkc hkci
     go_loopw [12] (fun v12 wr => ∃ (k : Nat), k ≤ n ∧ v12 = .int .i64 k ∧ Hid (Hh W n b gP cP bM km vW (.slice aD i cD) L Q Di ld b5 s x wr)) (fun v12 _ => n - (intOf v12).toNat)
     case atStart => exact ⟨0, Nat.zero_le _, rfl, HS⟩
     case round =>
      clear HS
      obtain ⟨k3, hk3, rfl, HS⟩ := hrel
      have y0 := (ju HS).gs.c0
      by_cases hkn : k3 < n
      ·have hkL : k3 < L.length := by have := ju HBD; omega
       have hkni : (k3 : Int) < n := by omega
       have hwk3 : IntKind.i64.wrap ((k3 : Int) + 1) = ((k3 + 1 : Nat) : Int) := by rw [wrapI (by have := ju HBD; omega) (by have := ju HBD; omega)]; omega
       obtain ⟨p', c', x', hsx', hmk, hcb', hcc', hll'⟩ := (ju HID) k3 hkL
       have HSL' : Hid ((rl n σ p' c').log.length = p'.log.length - c') := jd (by simp [rl])
       have hlb' : (rl n σ p' c').base = (c' : Int) := rfl
       have HSE' : Hid (∀ k (hk : k < (rl n σ p' c').log.length) (hk2 : c' + k < p'.log.length), (rl n σ p' c').log[k] = PE.g p'.log[c' + k]) := jd (fun k hk hk2 => by simp [rl])
       obtain ⟨s', hs'⟩ : ∃ s', s' = rl n σ p' c' := ⟨_, rfl⟩
       rw [← hs'] at hsx' HSL' hlb' HSE'
       have HSX' := jd hsx'
       have HKL : Hid (k3 < L.length) := jd hkL
       have HBD' : Hid (c' ≤ p'.log.length ∧ p'.log.length ≤ 900000) := jd ⟨by omega, hll'⟩
       clear hcb' hcc' hll'
       have HMK := jd hmk
       obtain ⟨gK, oK, HAL'⟩ : ∃ gK oK, Hid (s'.log.length ≠ 0 → x'.aL = some ⟨gK, oK, none⟩) := by
        by_cases h0 : s'.log.length = 0
        ·exact ⟨0, 0, jd (fun h => absurd h0 h)⟩
        ·obtain ⟨g1, o1, e1⟩ := (ju HS).gs.adr hkL hsx' h0
         exact ⟨g1, o1, jd (fun _ => e1)⟩
       have HCL' : Hid (s'.log.length ≤ x'.cL) := jd ((ju HS).gs.capL hkL hsx')
       have HEy' : Hid (∀ w1 (m k : Nat), m = c' + k + 1 → k < s'.log.length → Calls Tryz.prog 80 #[.agg (gc s' x'), .int .i64 (m : Int)] w1 fun e w' => e = .returned (.tuple #[.slice (some ⟨gK, oK + k * 4, none⟩) 1 (x'.cL - k), .bool true]) ∧ Bel w1 w') := jd (fun w1 m k hm hk => entry_yes ((ju HAL') (by omega)) (by rw [hlb']; have := ju HBD'; omega) (by rw [ju HSL']; have := ju HBD'; omega) (ju HCL') k hk _ (by rw [hlb']; omega))
       have HPL' : Hid (∀ w', Hh W n b gP cP bM km vW (.slice aD i cD) L Q Di ld b5 s x w' → ∀ k (hk : k < s'.log.length), ∃ y : GE × GA, y.1 = PE.g (p'.log[c' + k]'(by have h1 := ju HSL'; omega)) ∧ SlT EG w' (some ⟨gK, oK + k * 4, none⟩) [y] ∧ SlT E3 w' y.2.a y.1.m) := jd (fun w' hs k hk => by
        obtain ⟨y, q1, q2, q3⟩ := hs.gs.oneL (ju HKL) (ju HSX') ((ju HAL') (by omega)) hk
        exact ⟨y, by rw [q1, (ju HSE') k hk (by have h1 := ju HSL'; omega)], q2, q3⟩)
       have hwA : IntKind.i64.wrap ((c : Int) + (s.log.length : Int)) = (p.log.length : Int) := by
        have h1 := ju HSL; have h2 := ju HBD
        rw [wrapI (by omega) (by omega)]; omega
       have hwB : IntKind.i64.wrap ((c' : Int) + (s'.log.length : Int)) = (p'.log.length : Int) := by
        have h1 := ju HSL'; have h2 := ju HBD'
        rw [wrapI (by omega) (by omega)]; omega
       have hwc1 : IntKind.i64.wrap (c : Int) = (c : Int) := wrapI (by have := ju HBD; omega) (by have := ju HBD; omega)
       have hwc2 : IntKind.i64.wrap (c' : Int) = (c' : Int) := wrapI (by have := ju HBD'; omega) (by have := ju HBD'; omega)
       obtain ⟨lo, hlo⟩ : ∃ lo : Nat, max (c : Int) (c' : Int) = (lo : Int) := ⟨max c c', by omega⟩
       obtain ⟨mm, hmi⟩ : ∃ mm : Nat, min (p.log.length : Int) (p'.log.length : Int) = (mm : Int) := ⟨min p.log.length p'.log.length, by omega⟩
       have HMM2 : Hid (mm ≤ p.log.length ∧ mm ≤ p'.log.length ∧ c ≤ lo ∧ c' ≤ lo ∧ lo ≤ 900000 ∧ mm ≤ 900000) := jd (by have := ju HBD; have := ju HBD'; omega)
       have hwlo : IntKind.i64.wrap (lo : Int) = (lo : Int) := wrapI (by have := ju HMM2; omega) (by have := ju HMM2; omega)
       clear hsx' hmk hs' HSE'
       go_wp2_with (first
        | go_skip
        | (with_reducible refine elp_ld (.tmp 105) gP k3 s' x' (ju HS).gs.row (ju HKL) (ju HSX') ?_ ?_ ?_ ?_; exact rfl; exact rfl; (first | exact rfl | simp [Act.eval]))
        | (with_reducible refine bxp_new ?_ ?_ ?_; exact rfl; exact rfl; intro b9 w3 hr3 hs3 hb3; have HR3 := jd (aI hr3 (aI hs3 hb3)); clear hr3 hs3 hb3)
        | (with_reducible refine bxp_st (.tmp 13) (.tmp 106) b9 s' x' (ju HR3).1 ?_ ?_ ?_ ?_ ?_; exact rfl; exact rfl; (first | exact rfl | simp [Act.put, Act.eval]); (first | exact rfl | simp [Act.put, Act.eval]); intro w4 hr4 hc4; have HT : Hid (Hh W n b gP cP bM km vW (.slice aD i cD) L Q Di ld b5 s x w4 ∧ w4.heap[b9]? = some (.cells (gc s' x') 31)) := jd ⟨(ju HS).next (bel_off (ju HR3).2.2 hc4 (Nat.le_of_eq (ju HR3).2.1)), hr4⟩; have y10 := (Bg.of (ju HT).1.row).c10; have z10 := (Bg.of (ju HT).2).c10; have y6 := (Bg.of (ju HT).1.row).c6; have z6 := (Bg.of (ju HT).2).c6; rw [hlb] at y6; rw [hlb'] at z6; clear hr4 hc4 HR3))
       clear y10 z10 y0 y6 z6
       go_loopw [15] (fun v15 wr => ∃ (m : Nat), m ≤ mm ∧ v15 = .int .i64 m ∧ Hid (Hh W n b gP cP bM km vW (.slice aD i cD) L Q Di ld b5 s x wr ∧ wr.heap[b9]? = some (.cells (gc s' x') 31))) (fun v15 _ => (intOf v15).toNat)
       case atStart => exact ⟨mm, Nat.le_refl _, rfl, HT⟩
       case round =>
        clear HT HS
        obtain ⟨m, hm, rfl, HT⟩ := hrel
        by_cases hgt : lo < m
        ·have hgti : (lo : Int) < (m : Int) := by omega
         have hwm1 : IntKind.i64.wrap ((m : Int) - 1) = ((m - 1 : Nat) : Int) := by rw [wrapI (by omega) (by have := ju HMM2; omega)]; omega
         obtain ⟨k1, hk1⟩ : ∃ k1, m = c + k1 + 1 := ⟨m - c - 1, by have := ju HMM2; omega⟩
         obtain ⟨k2, hk2⟩ : ∃ k2, m = c' + k2 + 1 := ⟨m - c' - 1, by have := ju HMM2; omega⟩
         have hs1 : k1 < s.log.length := by have h1 := ju HMM2; have h2 := ju HSL; omega
         have hs2 : k2 < s'.log.length := by have h1 := ju HMM2; have h2 := ju HSL'; omega
         have hm1 : m - 1 < p.log.length := by have h1 := ju HMM2; omega
         have hm2 : m - 1 < p'.log.length := by have h1 := ju HMM2; omega
         have hE1 : Hid (∀ w1, Calls Tryz.prog 80 #[.agg (gc s x), .int .i64 (m : Int)] w1 fun e w' => e = .returned (.tuple #[.slice (some ⟨gL, oL + k1 * 4, none⟩) 1 (x.cL - k1), .bool true]) ∧ Bel w1 w') := jd (fun w1 => (ju HEy) w1 m k1 hk1 hs1)
         have hE2 : Hid (∀ w1, Calls Tryz.prog 80 #[.agg (gc s' x'), .int .i64 (m : Int)] w1 fun e w' => e = .returned (.tuple #[.slice (some ⟨gK, oK + k2 * 4, none⟩) 1 (x'.cL - k2), .bool true]) ∧ Bel w1 w') := jd (fun w1 => (ju HEy') w1 m k2 hk2 hs2)
         have HY1 : Hid (∀ w', Hh W n b gP cP bM km vW (.slice aD i cD) L Q Di ld b5 s x w' → ∃ y : GE × GA, y.1 = PE.g (p.log[m - 1]'hm1) ∧ SlT EG w' (some ⟨gL, oL + k1 * 4, none⟩) [y] ∧ SlT E3 w' y.2.a y.1.m) := jd (fun w' hs => by
          obtain ⟨y, q1, q2, q3⟩ := (ju HPL) w' hs k1 hs1 gL oL ((ju HAL) (by omega))
          refine ⟨y, ?_, q2, q3⟩
          rw [q1]
          congr 2
          omega)
         have HY2 : Hid (∀ w', Hh W n b gP cP bM km vW (.slice aD i cD) L Q Di ld b5 s x w' → ∃ y : GE × GA, y.1 = PE.g (p'.log[m - 1]'hm2) ∧ SlT EG w' (some ⟨gK, oK + k2 * 4, none⟩) [y] ∧ SlT E3 w' y.2.a y.1.m) := jd (fun w' hs => by
          obtain ⟨y, q1, q2, q3⟩ := (ju HPL') w' hs k2 hs2
          refine ⟨y, ?_, q2, q3⟩
          rw [q1]
          congr 2
          omega)
         clear hk1 hk2
         have HC1 : Hid (∀ w', Hh W n b gP cP bM km vW (.slice aD i cD) L Q Di ld b5 s x w' → w'.cell? ⟨gL, oL + k1 * 4, none⟩ = some (.int .u64 (p.log[m - 1]'hm1).t) ∧ w'.cell? ⟨gK, oK + k2 * 4, none⟩ = some (.int .u64 (p'.log[m - 1]'hm2).t)) := jd (fun w' hs => by
          obtain ⟨y, q1, q2, _⟩ := (ju HY1) w' hs
          obtain ⟨y', q1', q2', _⟩ := (ju HY2) w' hs
          have r1 := (EG_cell q2.r1 0 (by simp)).1
          have r2 := (EG_cell q2'.r1 0 (by simp)).1
          simp only [List.getElem_cons_zero, Nat.zero_mul, Nat.add_zero, q1, q1'] at r1 r2
          exact ⟨r1, r2⟩)
         by_cases hte : (p.log[m - 1]'hm1).t = (p'.log[m - 1]'hm2).t
         ·have hpre : p.log.take m = p'.log.take m := by
           obtain ⟨e1, e2⟩ := ju HMM
           have e3 := ju HMK
           have hq1 : q < M.length := by omega
           have hq2 : k3 < M.length := by omega
           rw [List.getElem?_eq_getElem hq1] at e2
           rw [List.getElem?_eq_getElem hq2] at e3
           have g1 : (M.map (·.1))[q]'(by simpa using hq1) = p := by simp [Option.some.inj e2]
           have g2 : (M.map (·.1))[k3]'(by simpa using hq2) = p' := by simp [Option.some.inj e3]
           have := (ju HD1).1.hold2 (i := q) (by simpa using hq1) (j := k3) (k := m - 1) (by simpa using hq2) (by rw [g1]; exact hm1) (by rw [g2]; exact hm2) (by simp only [g1, g2]; exact hte)
           rw [g1, g2, show m - 1 + 1 = m by omega] at this
           exact this
          have hteb : ((p.log[m - 1]'hm1).t == (p'.log[m - 1]'hm2).t) = true := beq_iff_eq.2 hte
          have HPRE := jd hpre
          clear hte hpre
          generalize (p.log[m - 1]'hm1).t = t1 at *
          generalize (p'.log[m - 1]'hm2).t = t2 at *
          go_wp2_with (first
             | go_skip
             | (refine bx_ldK 31 (.tmp 5) (by exact rfl) b5 (by exact rfl) (by exact rfl) (gc s x) _ (ju HT).1.row Tryz.underlying31 (zP _ _) ?_)
             | (refine bx_ldK 31 (.tmp 13) (by exact rfl) b9 (by exact rfl) (by exact rfl) (gc s' x') _ (ju HT).2 Tryz.underlying31 (zP _ _) ?_)
             | (go_at_call 80; with_reducible refine ((ju hE1) _).mono ?_; rintro e wq ⟨rfl, hb6⟩; replace HT := jd (aI ((ju HT).1.next hb6) (hb6.row (ju HT).2)); clear hb6)
             | (go_at_call 80; with_reducible refine ((ju hE2) _).mono ?_; rintro e wq2 ⟨rfl, hb6⟩; replace HT := jd (aI ((ju HT).1.next hb6) (hb6.row (ju HT).2)); clear hb6))
          obtain ⟨cl1, cl2⟩ := (ju HC1) wq2 (ju HT).1
          go_quiet (fail)
          have hb1 := (Bel.refl wq2).drewN nq
          replace HT := jd (aI ((ju HT).1.next hb1) (hb1.row (ju HT).2))
          clear hb1 cl1 cl2
          generalize wq2.drewN nq = wz at *
          go_wp2_with fail
          clear hE1 hE2 HY1 HY2 HC1 hs1 hs2 hm1 hm2
          go_loopw [15] (fun v15 wr => ∃ (j : Nat), j ≤ m ∧ v15 = .int .i64 j ∧ Hid (Hh W n b gP cP bM km vW (.slice aD i cD) L Q Di ld b5 s x wr ∧ wr.heap[b9]? = some (.cells (gc s' x') 31))) (fun v15 _ => (intOf v15).toNat)
          case atStart => exact ⟨m, Nat.le_refl _, rfl, HT⟩
          case round =>
           clear HT
           obtain ⟨j, hj, rfl, HT⟩ := hrel
           by_cases hgj : lo < j
           ·have hgji : (lo : Int) < (j : Int) := by omega
            have hwj1 : IntKind.i64.wrap ((j : Int) - 1) = ((j - 1 : Nat) : Int) := by rw [wrapI (by omega) (by have := ju HMM2; omega)]; omega
            obtain ⟨k1, hk1⟩ : ∃ k1, j = c + k1 + 1 := ⟨j - c - 1, by have := ju HMM2; omega⟩
            obtain ⟨k2, hk2⟩ : ∃ k2, j = c' + k2 + 1 := ⟨j - c' - 1, by have := ju HMM2; omega⟩
            have hs1 : k1 < s.log.length := by have h1 := ju HMM2; have h2 := ju HSL; omega
            have hs2 : k2 < s'.log.length := by have h1 := ju HMM2; have h2 := ju HSL'; omega
            have hm1 : j - 1 < p.log.length := by have h1 := ju HMM2; omega
            have hm2 : j - 1 < p'.log.length := by have h1 := ju HMM2; omega
            have hE1 : Hid (∀ w1, Calls Tryz.prog 80 #[.agg (gc s x), .int .i64 (j : Int)] w1 fun e w' => e = .returned (.tuple #[.slice (some ⟨gL, oL + k1 * 4, none⟩) 1 (x.cL - k1), .bool true]) ∧ Bel w1 w') := jd (fun w1 => (ju HEy) w1 j k1 hk1 hs1)
            have hE2 : Hid (∀ w1, Calls Tryz.prog 80 #[.agg (gc s' x'), .int .i64 (j : Int)] w1 fun e w' => e = .returned (.tuple #[.slice (some ⟨gK, oK + k2 * 4, none⟩) 1 (x'.cL - k2), .bool true]) ∧ Bel w1 w') := jd (fun w1 => (ju HEy') w1 j k2 hk2 hs2)
            have HY1 : Hid (∀ w', Hh W n b gP cP bM km vW (.slice aD i cD) L Q Di ld b5 s x w' → ∃ y : GE × GA, y.1 = PE.g (p.log[j - 1]'hm1) ∧ SlT EG w' (some ⟨gL, oL + k1 * 4, none⟩) [y] ∧ SlT E3 w' y.2.a y.1.m) := jd (fun w' hs => by
             obtain ⟨y, q1, q2, q3⟩ := (ju HPL) w' hs k1 hs1 gL oL ((ju HAL) (by omega))
             refine ⟨y, ?_, q2, q3⟩
             rw [q1]
             congr 2
             omega)
            have HY2 : Hid (∀ w', Hh W n b gP cP bM km vW (.slice aD i cD) L Q Di ld b5 s x w' → ∃ y : GE × GA, y.1 = PE.g (p'.log[j - 1]'hm2) ∧ SlT EG w' (some ⟨gK, oK + k2 * 4, none⟩) [y] ∧ SlT E3 w' y.2.a y.1.m) := jd (fun w' hs => by
             obtain ⟨y, q1, q2, q3⟩ := (ju HPL') w' hs k2 hs2
             refine ⟨y, ?_, q2, q3⟩
             rw [q1]
             congr 2
             omega)
            clear hk1 hk2
            have HSm : Hid (∀ w', Hh W n b gP cP bM km vW (.slice aD i cD) L Q Di ld b5 s x w' → Calls Tryz.prog 27 #[.slice (some ⟨gL, oL + k1 * 4, none⟩) 1 (x.cL - k1), .slice (some ⟨gK, oK + k2 * 4, none⟩) 1 (x'.cL - k2)] w' fun e w'' => e = .returned (.bool true) ∧ Bel w' w'') := jd (fun w' hs => by
             obtain ⟨y, q1, q2, q3⟩ := (ju HY1) w' hs
             obtain ⟨y', q1', q2', q3'⟩ := (ju HY2) w' hs
             have e0 : p.log[j - 1]'hm1 = p'.log[j - 1]'hm2 := by
              have h1 : (p.log.take m)[j - 1]? = (p'.log.take m)[j - 1]? := by rw [ju HPRE]
              rw [List.getElem?_take_of_lt (by omega), List.getElem?_take_of_lt (by omega), List.getElem?_eq_getElem hm1, List.getElem?_eq_getElem hm2] at h1
              exact Option.some.inj h1
             have e1 : y.1 = y'.1 := by rw [q1, q1', e0]
             have hm0 : y.1.m = [] := by rw [q1]; rfl
             refine (sameEnts_yes (l := [y]) (k := [y']) (Sl.one1 q2.r1) (Sl.one1 q2'.r1) (fun z hz => by rw [List.mem_singleton.1 hz]; exact q3.1) (fun z hz => by rw [List.mem_singleton.1 hz]; exact q3'.1) (by simp [e1]) _ _ (by simp) (fun z hz => by rw [List.mem_singleton.1 hz, hm0]; simp)).mono ?_
             rintro e w2 ⟨h1, m2, h2⟩
             exact ⟨h1, bel_of_drew h2⟩)
            go_wp2_with (first
             | go_skip
             | (refine bx_ldK 31 (.tmp 5) (by exact rfl) b5 (by exact rfl) (by exact rfl) (gc s x) _ (ju HT).1.row Tryz.underlying31 (zP _ _) ?_)
             | (refine bx_ldK 31 (.tmp 13) (by exact rfl) b9 (by exact rfl) (by exact rfl) (gc s' x') _ (ju HT).2 Tryz.underlying31 (zP _ _) ?_)
             | (go_at_call 80; with_reducible refine ((ju hE1) _).mono ?_; rintro e wq ⟨rfl, hb6⟩; replace HT := jd (aI ((ju HT).1.next hb6) (hb6.row (ju HT).2)); clear hb6)
             | (go_at_call 80; with_reducible refine ((ju hE2) _).mono ?_; rintro e wq2 ⟨rfl, hb6⟩; replace HT := jd (aI ((ju HT).1.next hb6) (hb6.row (ju HT).2)); clear hb6)
             | (go_at_call 27; refine ((ju HSm) _ (ju HT).1).mono ?_; rintro e wr2 ⟨rfl, hb7⟩; replace HT := jd (aI ((ju HT).1.next hb7) (hb7.row (ju HT).2)); clear hb7))
            go_roundw
            case rel => exact ⟨j - 1, by omega, by first | rfl | rw [hwj1] | go_num, HT⟩
            case measure => (simp [intOf] <;> omega)
           ·have hgji : ¬ (lo : Int) < (j : Int) := by omega
            go_wp2_with fail
            go_roundw
            case rel => exact ⟨k3 + 1, by omega, by first | rfl | rw [hwk3] | go_num, jd (ju HT).1⟩
            case measure => simp [intOf]; omega
         ·have hteb : ((p.log[m - 1]'hm1).t == (p'.log[m - 1]'hm2).t) = false := beq_eq_false_iff_ne.2 hte
          clear hte
          generalize (p.log[m - 1]'hm1).t = t1 at *
          generalize (p'.log[m - 1]'hm2).t = t2 at *
          go_wp2_with (first
             | go_skip
             | (refine bx_ldK 31 (.tmp 5) (by exact rfl) b5 (by exact rfl) (by exact rfl) (gc s x) _ (ju HT).1.row Tryz.underlying31 (zP _ _) ?_)
             | (refine bx_ldK 31 (.tmp 13) (by exact rfl) b9 (by exact rfl) (by exact rfl) (gc s' x') _ (ju HT).2 Tryz.underlying31 (zP _ _) ?_)
             | (go_at_call 80; with_reducible refine ((ju hE1) _).mono ?_; rintro e wq ⟨rfl, hb6⟩; replace HT := jd (aI ((ju HT).1.next hb6) (hb6.row (ju HT).2)); clear hb6)
             | (go_at_call 80; with_reducible refine ((ju hE2) _).mono ?_; rintro e wq2 ⟨rfl, hb6⟩; replace HT := jd (aI ((ju HT).1.next hb6) (hb6.row (ju HT).2)); clear hb6))
          obtain ⟨cl1, cl2⟩ := (ju HC1) wq2 (ju HT).1
          go_quiet (fail)
          have hb1 := (Bel.refl wq2).drewN nq
          replace HT := jd (aI ((ju HT).1.next hb1) (hb1.row (ju HT).2))
          clear hb1 cl1 cl2
          generalize wq2.drewN nq = wz at *
          go_wp2_with fail
          go_roundw
          case rel => exact ⟨m - 1, by omega, by first | rfl | rw [hwm1] | go_num, HT⟩
          case measure => (simp [intOf] <;> omega)
        ·have hgti : ¬ (lo : Int) < (m : Int) := by omega
         go_wp2_with fail
         go_loopw [15] (fun v15 wr => v15 = .int .i64 m ∧ Hid (Hh W n b gP cP bM km vW (.slice aD i cD) L Q Di ld b5 s x wr ∧ wr.heap[b9]? = some (.cells (gc s' x') 31))) (fun v15 _ => 0)
         case atStart => exact ⟨rfl, HT⟩
         case round =>
          clear HT
          obtain ⟨rfl, HT⟩ := hrel
          go_wp2_with fail
          go_roundw
          case rel => exact ⟨k3 + 1, by omega, by first | rfl | rw [hwk3] | go_num, jd (ju HT).1⟩
          case measure => simp [intOf]; omega
      ·have hkni : ¬ ((k3 : Int) < n) := by omega
       have y4 := (Bg.of (ju HS).row).c4
       have hsr : s.role = p.role := by rw [ju HRL]; rfl
       have hst : s.term = p.term := by rw [ju HRL]; rfl
       have hsi : s.id = p.id := by rw [ju HRL]; rfl
       have hq1 : q < (M.map (·.1)).length := by have := ju HMM; rw [List.length_map]; omega
       have hg1 : (M.map (·.1))[q] = p := by
        obtain ⟨h1, h2⟩ := ju HMM
        have h3 : q < M.length := by omega
        rw [List.getElem?_eq_getElem h3] at h2
        simp [Option.some.inj h2]
       by_cases hrl : s.role = 2
       ·have er : (s.role == 2) = true := beq_iff_eq.2 hrl
        obtain ⟨hno, hal2⟩ := (ju HD1).1.note hq1 (by rw [hg1, ← hsr]; exact hrl)
        rw [hg1] at hno hal2
        have hok := (ju HOK).1
        have ht0 := hok.t0
        have htT := hok.tT
        have hi1 := hok.id1
        have hk1 : KeyOK 25 (mkT s.term) := keyT (by rw [hst]; omega) (by rw [hst]; omega)
        have hlk : Hid (∀ p : BelBy wr, (Instr.lookup 48 (.map (some bM)) (.int .u64 s.term) false).run Tryz.prog p.W = .ok (.int .i64 (ld s.term)) p.W) := jd (fun p => by
         have := ((ju HS).gs.map.bel p.h).look key25 Tryz.underlying48 (z := .int .i64 0) (by go_simp) hk1
         rw [show mkT s.term = .int .u64 s.term from rfl] at this
         rw [this]
         unfold ldF
         by_cases c0 : ld s.term = 0
         ·rw [if_pos c0, c0]; rfl
         ·rw [if_neg c0]; rfl)
        have p3 : ∀ p : BelBy wr, p.W.cell? ⟨b, 3, none⟩ = some (.map (some bM)) := fun p => ((ju HS).next p.h).gs.c3
        have p52 : ∀ p : BelBy wr, p.W.cell? ⟨b5, 2, none⟩ = some (.int .u64 s.term) := fun p => (Bg.of ((ju HS).next p.h).row).c2
        have p50 : ∀ p : BelBy wr, p.W.cell? ⟨b5, 0, none⟩ = some (.int .i64 s.id) := fun p => (Bg.of ((ju HS).next p.h).row).c0
        have hne := BelBy.some wr
        have hcl : ((ld s.term != 0) = false) ∨ ((ld s.term != 0) = true ∧ (ld s.term != s.id) = false) := by
         rw [hst, hsi]
         by_cases c0 : ld p.term = 0
         ·exact Or.inl (by simp [c0])
         ·exact Or.inr ⟨by simp [c0], by simp [hno c0]⟩
        have HAL2 := jd hal2
        have HLD : Hid (p.id ≠ 0) := jd (by omega)
        have HST := jd hst
        have HSI := jd hsi
        clear hal2 hok hno ht0 htT hi1 hst hsi hsr
        rcases hcl with e1 | ⟨e1, e2⟩
        all_goals
         go_wp2_with fail
         refine wp_region_bel Tryz.follows (by kernel_rfl) ?_
         repeat (first
          | go_big_quiet_step (fail)
          | (go_big_quiet_want; refine quiet_look bM (.int .u64 s.term) (.int .i64 (ld s.term)) (.tmp 196) (.tmp 198) (by exact rfl) (by simp [Act.eval]) (by simp [Act.eval]) (fun w hw => by obtain ⟨p9, rfl⟩ := hw; exact (ju hlk) p9) ?_; simp only [Act.put, List.setIfInBounds_toArray, List.set_cons_zero, List.set_cons_succ]; go_big_quiet_on)
          | (go_big_quiet_want; refine quiet_look bM (.int .u64 s.term) (.int .i64 (ld s.term)) (.tmp 187) (.tmp 189) (by exact rfl) (by simp [Act.eval]) (by simp [Act.eval]) (fun w hw => by obtain ⟨p9, rfl⟩ := hw; exact (ju hlk) p9) ?_; simp only [Act.put, List.setIfInBounds_toArray, List.set_cons_zero, List.set_cons_succ]; go_big_quiet_on))
         refine wpQuiet_nil ?_
         rintro W1 ⟨p9, rfl⟩
         replace HS := jd ((ju HS).next p9.h)
         clear hlk p3 p52 p50 y4 hne
         generalize p9.W = wz at *
         go_wp2_with fail
         have hGd := (ju HS).next (Bel.refl wz).drew
         refine wp_region_held_drew (S := fun w => w.heap[b]? = some (.cells (grp n gP cP bM vW (.slice aD i cD)) 50) ∧ w.heap[b5]? = some (.cells (gc s x) 31)) Tryz.follows ⟨hGd.gs.box, hGd.row⟩ (fun hS => ?_)
         generalize wz.drew = wd at *
         refine any_take (i := 0) (v := .pointer (some ⟨b, 0, none⟩)) rfl (by kernel_rfl) (fun _ _ _ h => h) rfl hS (fun w hw => by go_simp) ?_
         refine any_take (i := 1) (v := .pointer (some ⟨b, 0, none⟩)) rfl (by kernel_rfl) (fun _ _ _ h => h) rfl hS (fun w hw => by go_simp) ?_
         refine any_take (i := 2) (v := .pointer (some ⟨b, 3, none⟩)) rfl (by kernel_rfl) (fun _ _ _ h => h) rfl hS (fun w hw => by go_simp) ?_
         refine any_take (i := 3) (v := .map (some bM)) rfl (by kernel_rfl) (fun _ _ _ h => h) rfl hS (fun w hw => by have hq9 : w.cell? ⟨b, 3, none⟩ = some (.map (some bM)) := (cell_of hw.1).trans rfl; go_simp) ?_
         refine any_take (i := 4) (v := .pointer (some ⟨b5, 2, none⟩)) rfl (by kernel_rfl) (fun _ _ _ h => h) rfl hS (fun w hw => by go_simp) ?_
         refine any_take (i := 5) (v := .int .u64 s.term) rfl (by kernel_rfl) (fun _ _ _ h => h) rfl hS (fun w hw => by have hq9 := (Bg.of hw.2).c2; go_simp) ?_
         refine any_take (i := 6) (v := .pointer (some ⟨b5, 0, none⟩)) rfl (by kernel_rfl) (fun _ _ _ h => h) rfl hS (fun w hw => by go_simp) ?_
         refine any_take (i := 7) (v := .int .i64 s.id) rfl (by kernel_rfl) (fun _ _ _ h => h) rfl hS (fun w hw => by have hq9 := (Bg.of hw.2).c0; go_simp) ?_
         obtain ⟨w8, hrun8, hmg8, htu8⟩ := hGd.gs.map.store key25 mkT_inj Tryz.underlying48 (by have := ju HBD; omega) hk1 (.int .i64 s.id)
         rw [ju HSI, ldF_upd (ju HLD), ju HST] at hmg8
         have hGN := hGd.gs.noted hmg8 htu8
         obtain ⟨es, cl, hmm⟩ := hGd.gs.map.isMap
         have hc8 : Ch (fun k => k = bM) wd w8 := (Ch.refl (fun k => k = bM) wd).turned htu8 (Or.inl rfl)
         have hS8 : w8.heap[b]? = some (.cells (grp n gP cP bM vW (.slice aD i cD)) 50) ∧ w8.heap[b5]? = some (.cells (gc s x) 31) := ⟨hGN.box, hc8.row hS.2 (fun e => by have h9 := hS.2; rw [e, hmm] at h9; cases h9)⟩
         refine any_skip (i := 8) (w' := w8) (by kernel_rfl) rfl rfl (mu_run (.tmp 207) (.tmp 209) (.tmp 211) (by exact rfl) (by go_simp) (by show _ = Value.int .u64 s.term; go_simp) (by go_simp) hrun8) ⟨hS8, ?_⟩
         refine wpAnyH_done (by kernel_rfl) ?_ _
         have HGN := jd hGN
         clear hGN hS8 hc8 hmg8 htu8 hrun8 hGd hS hmm
         simp [Act.put]
         go_wp2_with fail
         go_ret
         exact ⟨rfl, _, Di, _, _, Nat.le_refl _, ju HGN, ju HDM, ju HAL2⟩
       ·have er : (s.role == 2) = false := beq_eq_false_iff_ne.2 hrl
        go_wp2_with fail
        go_ret
        exact ⟨rfl, _, Di, ld, km, by omega, (ju HS).gs, ju HDM, (ju HD1).1⟩
end
end Go.Proofs.YthekbhliokcpcaaGreat
