/- mayReads, mayLead, mayStand, mayRole of members that may be. -/
import Derived.Test.YthekbhliokcpcaaGreatFol
namespace Go.Proofs.YthekbhliokcpcaaGreat
open Go.RowKit Go.Maps Go.Sort
theorem bx_ldG {ops : Array Oper} {rest : List Oper} {o : Oper} {a : Act} {Q : Exit → Act → World → Prop} {W : World} (hw : Region.wanted o (yielded ops a.tmps) = true) (t : TypeId) (x : Operand) (ho : o.op = .load t x) (b : Nat) (hx : a.eval x = .pointer (some ⟨b, 0, none⟩)) (cs : Array Value) (fs : Array Field) (hg : W.heap[b]? = some (.cells cs t)) (hu : Tryz.prog.underlying t = some (.struct fs)) (hi : (Tryz.prog.info? t).map (·.size) = some cs.size)
    (h : wpList Tryz.prog ops Q rest (a.put o.dst (.agg cs)) W) : wpList Tryz.prog ops Q (o :: rest) a W :=
  wpList_step fun K hK => by
    rw [if_pos hw]
    exact wp_load_row t x ho b hx t cs (0, 0) _ hg hu rfl hi (hK _ _ h)
set_option maxRecDepth 100000 in
theorem reads_ok {W : World} {n : Nat} {s : PP} {x : Px} : Calls Tryz.prog 190 #[.agg (pc n s x)] W fun e w' => e = .returned (.bool true) ∧ Bel W w' := by
  go_enter Tryz.func190, Tryz.ntmps190
  go_wp2_with (first
    | (refine bx_box rfl 31 _ rfl (pc n s x) rfl ?_; intro b w0 hr0 hs0 hb0; have y17 := (Bx.of hr0).c17; have HB0 := hide hb0; clear hr0 hs0 hb0))
  go_loopw [8] (fun vk wr => vk = .int .i64 0 ∧ wr = w0) (fun _ _ => 0)
  case atStart => exact ⟨rfl, rfl⟩
  case round =>
    obtain ⟨rfl, rfl⟩ := hrel
    go_wp2_with fail
    go_ret
    exact ⟨rfl, unhide HB0⟩
set_option maxRecDepth 100000 in
set_option maxHeartbeats 1000000 in
theorem lead_ok {W : World} {n : Nat} {s : PP} {x : Px} (h : Pw W n s x) (hn : n ≤ 64) (h1 : 1 ≤ n) (hl : s.log.length ≤ 999999) (e1 : s.lead = s.id) (e2 : 1 ≤ s.term) (e3 : s.votes = []) (hF : s.fol.map (·.1) = oth n s.id) (hf : ∀ f ∈ s.fol, 1 ≤ f.2.1 ∧ f.2.1 ≤ (s.log.length : Int) + 1 ∧ f.2.2 < f.2.1 ∧ 0 ≤ f.2.2) : Calls Tryz.prog 153 #[.agg (pc n s x)] W fun e w' => e = .returned (.bool true) ∧ Bel W w' := by
  have H1 : Hid (∀ W', Bel W W' → Calls Tryz.prog 189 #[.agg (pc n s x)] W' fun e w' => e = .returned (.bool true) ∧ Bel W' w') := hide (fun W' hb => follows_ok (h.bel hb) hn h1 hl hF hf)
  have H2 : Hid (∀ W', Calls Tryz.prog 190 #[.agg (pc n s x)] W' fun e w' => e = .returned (.bool true) ∧ Bel W' w') := hide (fun W' => reads_ok)
  have hv : s.votes.length = 0 := by rw [e3]; rfl
  have hlead : (s.lead == s.id) = true := by simp [e1]
  have ht : 0 < s.term := by omega
  clear h hn h1 hl hF hf e1 e2 e3
  go_enter Tryz.func153, Tryz.ntmps153
  go_wp2_with (first
    | (refine bx_box rfl 31 _ rfl (pc n s x) rfl ?_; intro b w0 hr0 hs0 hb0; obtain ⟨y0, y1, y2, y3, y4, y5, y6, y7, y8, y9, y10, y11, y12, y13, y14, y15, y16, y17⟩ := Bx.of hr0; rw [hv] at y14; have HR0 := hide hr0; have HB0 := hide hb0; clear hr0 hs0 hb0)
    | (refine bx_ldG rfl 31 _ rfl b rfl (pc n s x) _ (unhide HR0) Tryz.underlying31 (Tryz.size32 n s x) ?_)
    | (refine bx_ldG rfl 31 _ rfl b rfl (pc n s x) _ (unhide HR1) Tryz.underlying31 (Tryz.size32 n s x) ?_)
    | (go_at_call 189; refine ((unhide H1) _ (unhide HB0)).mono ?_; rintro e w1 ⟨rfl, hb1⟩; have HR1 := hide (hb1.row (unhide HR0)); have HB1 := hide ((unhide HB0).trans hb1); clear hb1)
    | (go_at_call 190; refine ((unhide H2) _).mono ?_; rintro e w2 ⟨rfl, hb2⟩; have HB2 := hide ((unhide HB1).trans hb2); clear hb2))
  go_ret
  exact ⟨rfl, unhide HB2⟩
set_option maxRecDepth 100000 in
theorem nomem_any {W : World} {b n : Nat} {s : PP} {x : Px} (hb : W.heap[b]? = some (.cells (pc n s x) 31)) (h : Sl E3 W x.aM (mem n)) (hn : n ≤ 64) (y : Int) (hy : y ∈ mem n) : Calls Tryz.prog 192 #[.int .i64 y, .pointer (some ⟨b, 0, none⟩)] W fun e w' => e = .returned (.bool false) ∧ w' = W := by
  have HC : Hid (Calls Tryz.prog 82 #[.slice x.aM n x.cM, .int .i64 y] W fun e w' => e = .returned (.bool true) ∧ w' = W) := hide (by
    have := contains_any h x.cM y (by rw [mem_len]; omega)
    rwa [mem_len, decide_eq_true hy] at this)
  have y1 := (Bx.of hb).c1
  clear hb h hn hy
  go_enter Tryz.func192, Tryz.ntmps192
  go_wp2_with (first
    | (go_at_call 82; refine (unhide HC).mono ?_; rintro e w9 ⟨rfl, hw9⟩; rw [hw9]; clear hw9))
  go_ret
  exact ⟨rfl, rfl⟩
set_option maxRecDepth 100000 in
set_option maxHeartbeats 1000000 in
theorem idxf_no {W : World} {a : Option Addr} {l : List Int} {b n : Nat} {s : PP} {x : Px} (hb : W.heap[b]? = some (.cells (pc n s x) 31)) (hm : Sl E3 W x.aM (mem n)) (hn : n ≤ 64) (h : Sl E3 W a l) (cap : Nat) (hl : l.length ≤ 1000000) (hall : ∀ y ∈ l, y ∈ mem n) : Calls Tryz.prog 143 #[.slice a l.length cap, .func (.func 192) #[] #[.pointer (some ⟨b, 0, none⟩)]] W fun e w' => e = .returned (.int .i64 (-1)) ∧ w' = W := by
  obtain ⟨g, off, hg, hR⟩ := h
  have HC : Hid (∀ y ∈ l, Calls Tryz.prog 192 #[.int .i64 y, .pointer (some ⟨b, 0, none⟩)] W fun e w' => e = .returned (.bool false) ∧ w' = W) := hide (fun y hy => nomem_any hb hm hn y (hall y hy))
  generalize hn2 : l.length = m at *
  have HN := hide hn2
  have HG := hide hg
  have HR := hide hR
  clear hn2 hg hR hb hm hn hall
  go_enter Tryz.func143, Tryz.ntmps143
  go_wp2_with fail
  go_loopw [8] (fun vk wr => ∃ (k : Nat), k ≤ m ∧ vk = .int .i64 k ∧ wr = W) (fun vk _ => m - (intOf vk).toNat)
  case atStart => exact ⟨0, Nat.zero_le _, rfl, rfl⟩
  case round =>
    obtain ⟨k, hk, rfl, rfl⟩ := hrel
    by_cases hlt : k < m
    · have hkl : k < l.length := by rw [unhide HN]; exact hlt
      obtain rfl := (unhide HG) (by omega)
      have hkn : (k : Int) < m := by omega
      have r0 := E3_cell (unhide HR) k hkl
      have HC2 := hide ((unhide HC) _ (List.getElem_mem hkl))
      generalize l[k] = y at *
      go_wp2_with (first
        | (go_at_call 192; refine (unhide HC2).mono ?_; rintro e w9 ⟨rfl, hw9⟩; rw [hw9]; clear hw9))
      go_roundw
      case rel => exact ⟨k + 1, by omega, by go_num, by trivial⟩
      case measure => simp [intOf]; omega
    · obtain rfl : k = m := by omega
      go_wp2_with fail
      go_ret
      exact ⟨rfl, rfl⟩
set_option maxRecDepth 100000 in
theorem contf_no {W : World} {a : Option Addr} {l : List Int} {b n : Nat} {s : PP} {x : Px} (hb : W.heap[b]? = some (.cells (pc n s x) 31)) (hm : Sl E3 W x.aM (mem n)) (hn : n ≤ 64) (h : Sl E3 W a l) (cap : Nat) (hl : l.length ≤ 1000000) (hall : ∀ y ∈ l, y ∈ mem n) : Calls Tryz.prog 191 #[.slice a l.length cap, .func (.func 192) #[] #[.pointer (some ⟨b, 0, none⟩)]] W fun e w' => e = .returned (.bool false) ∧ w' = W := by
  have HC := hide (idxf_no hb hm hn h cap hl hall)
  clear hb hm hn h hl hall
  go_enter Tryz.func191, Tryz.ntmps191
  go_wp2_with (first
    | (go_at_call 143; refine (unhide HC).mono ?_; rintro e w9 ⟨rfl, hw9⟩; rw [hw9]; clear hw9))
  go_ret
  exact ⟨rfl, rfl⟩
theorem ris_aids : ∀ (l : List Int) (b : Int), Ris l → (∀ x ∈ l, b < x) → (∀ x ∈ l, 1 ≤ x ∧ x ≤ 64) → aids b l = true
  | [], _, _, _, _ => rfl
  | x :: l, b, hr, hb, hm => by
    obtain ⟨h1, h2⟩ := List.pairwise_cons.1 hr
    have h3 := hb x List.mem_cons_self
    have h4 := hm x List.mem_cons_self
    unfold aids
    rw [ris_aids l x h2 h1 (fun y hy => hm y (List.mem_cons_of_mem _ hy))]
    simp [idB]
    omega
theorem mem_aids {n : Nat} (hn : n ≤ 64) : aids 0 (mem n) = true := ris_aids _ 0 (mem_ris n) (fun x hx => by have := mem_iff.1 hx; omega) (fun x hx => by have := mem_iff.1 hx; omega)
set_option maxRecDepth 100000 in
set_option maxHeartbeats 1000000 in
theorem stand_ok {W : World} {n : Nat} {s : PP} {x : Px} (h : Pw W n s x) (hn : n ≤ 64) (hi : s.id ∈ mem n) (e1 : s.lead = 0) (e2 : s.vote = s.id) (e3 : Ris s.votes) (e4 : ∀ y ∈ s.votes, 1 ≤ y ∧ y ≤ n) (e5 : s.id ∈ s.votes) : Calls Tryz.prog 154 #[.agg (pc n s x)] W fun e w' => e = .returned (.bool true) ∧ Bel W w' := by
  have hlv : s.votes.length ≤ 1000000 := by have := ris_le n s.votes e3.nodup e4; omega
  have ha : aids 0 s.votes = true := ris_aids _ 0 e3 (fun x hx => by have := e4 x hx; omega) (fun x hx => by have := e4 x hx; omega)
  have H1 : Hid (∀ W', Bel W W' → Calls Tryz.prog 188 #[.slice x.aV s.votes.length x.cV] W' fun e w' => e = .returned (.bool true) ∧ w' = W') := hide (fun W' hb => by have := areIds_any (h.v.bel hb) x.cV (by omega); rwa [ha] at this)
  have H2 : Hid (∀ W', Bel W W' → Calls Tryz.prog 128 #[.agg (pc n s x)] W' fun e w' => e = .returned (.bool true) ∧ Bel W' w') := hide (fun W' hb => by have := seated_any (s := s) (h.m.bel hb) hn; rwa [decide_eq_true hi] at this)
  have H3 : Hid (∀ W', Bel W W' → Calls Tryz.prog 82 #[.slice x.aV s.votes.length x.cV, .int .i64 s.id] W' fun e w' => e = .returned (.bool true) ∧ w' = W') := hide (fun W' hb => by have := contains_any (h.v.bel hb) x.cV s.id (by omega); rwa [decide_eq_true e5] at this)
  have H4 : Hid (∀ W' b, Bel W W' → W'.heap[b]? = some (.cells (pc n s x) 31) → Calls Tryz.prog 191 #[.slice x.aV s.votes.length x.cV, .func (.func 192) #[] #[.pointer (some ⟨b, 0, none⟩)]] W' fun e w' => e = .returned (.bool false) ∧ w' = W') := hide (fun W' b hb hr => contf_no hr (h.m.bel hb) hn (h.v.bel hb) x.cV hlv (fun y hy => mem_iff.2 (e4 y hy)))
  have hlead : (s.lead == 0) = true := by simp [e1]
  have hvote : (s.vote == s.id) = true := by simp [e2]
  clear h hn hi e1 e2 e3 e4 e5 hlv ha
  go_enter Tryz.func154, Tryz.ntmps154
  go_wp2_with (first
    | (refine bx_box rfl 31 _ rfl (pc n s x) rfl ?_; intro b w0 hr0 hs0 hb0; obtain ⟨y0, y1, y2, y3, y4, y5, y6, y7, y8, y9, y10, y11, y12, y13, y14, y15, y16, y17⟩ := Bx.of hr0; have HR0 := hide hr0; have HB0 := hide hb0; clear hr0 hs0 hb0)
    | (refine bx_ldG rfl 31 _ rfl b rfl (pc n s x) _ (unhide HR0) Tryz.underlying31 (Tryz.size32 n s x) ?_)
    | (go_at_call 188; refine ((unhide H1) _ (unhide HB0)).mono ?_; rintro e w9 ⟨rfl, hw9⟩; rw [hw9]; clear hw9)
    | (go_at_call 128; refine ((unhide H2) _ (unhide HB0)).mono ?_; rintro e w1 ⟨rfl, hb1⟩; obtain ⟨z0, z1, z2, z3, z4, z5, z6, z7, z8, z9, z10, z11, z12, z13, z14, z15, z16, z17⟩ := Bx.of (hb1.row (unhide HR0)); have HR1 := hide (hb1.row (unhide HR0)); have HB1 := hide ((unhide HB0).trans hb1); clear hb1)
    | (go_at_call 82; refine ((unhide H3) _ (unhide HB1)).mono ?_; rintro e w9 ⟨rfl, hw9⟩; rw [hw9]; clear hw9)
    | (go_at_call 191; refine ((unhide H4) _ _ (unhide HB1) (unhide HR1)).mono ?_; rintro e w9 ⟨rfl, hw9⟩; rw [hw9]; clear hw9))
  go_ret
  exact ⟨rfl, unhide HB1⟩
end Go.Proofs.YthekbhliokcpcaaGreat
