/- A wal's files are taken, one by one. -/
import Derived.Test.YtgimciacapfbfaaGreatDoorCle
namespace Go.Proofs.YtgimciacapfbfaaGreatDoor
open Go.RowKit Go.Maps Go.WideMaps
theorem Wa.less {w0 W : World} {C : Nat} {G G' : Nat → Prop} {q p : Nat} {x : PW} {d : PD} (h : Wa w0 C G W q p x d) (hg : ∀ i, G' i → G i) (hg0 : ∀ i, i < w0.heap.size → G' i) : Wa w0 C G' W q p x d :=
  h.outer (E := fun _ => False) (Ch.refl _ _) (fun _ f => f.elim) h.bel (fun i hi => Or.inl (hg i hi)) hg0
theorem Wa.more {w0 W W' : World} {C : Nat} {G : Nat → Prop} {q p : Nat} {x : PW} {d : PD} (h : Wa w0 C G W q p x d) (hb : Bel W W') : Wa w0 C (fun i => G i ∨ (W.heap.size ≤ i ∧ i < W'.heap.size)) W' q p x d :=
  h.outer (E := fun _ => False) (hb.ch _) (fun _ f => f.elim) (h.bel.trans hb) (fun _ hi => hi) (fun i hi => Or.inl (h.g0 i hi))
/-- Where the taking stands: the wal, the last file's bytes that are records, all its bytes, whether it was the last. -/
structure Ld where
  x : PW
  used : Nat
  size : Nat
  over : Bool
def Ld.one (s : Ld) (f : Nat × List UInt8) : Ld :=
  ⟨⟨s.x.nm, if s.x.last = 0 then f.1 else s.x.first, f.1, s.x.rs ++ (tkr 32 f.2.length f.2).1⟩, f.2.length - (tkr 32 f.2.length f.2).2.length, f.2.length,
    decide ((if s.x.last = 0 then f.1 else s.x.first) + (s.x.rs ++ (tkr 32 f.2.length f.2).1).length < f.1 + 32) || decide (f.2.length - (tkr 32 f.2.length f.2).2.length < f.2.length)⟩
/-- The next file is the wal's. -/
def Ld.fits (s : Ld) (f : Nat × List UInt8) : Prop := s.over = false ∧ (s.x.last = 0 ∨ s.x.next = f.1)
theorem one_nm (s : Ld) (f : Nat × List UInt8) : (s.one f).x.nm = s.x.nm := rfl
theorem fold_nm (fs : List (Nat × List UInt8)) : ∀ s : Ld, (fs.foldl Ld.one s).x.nm = s.x.nm := by
  induction fs with
  | nil => intro s; rfl
  | cons f r ih => intro s; rw [List.foldl_cons, ih]; rfl
theorem fold_is (fs : List (Nat × List UInt8)) : ∀ s : Ld, s.x.first ≤ 100000 → (∀ f ∈ fs, f.1 ≤ 100000) → (fs.foldl Ld.one s).x.first ≤ 100000 ∧ (fs.foldl Ld.one s).x.rs.length ≤ s.x.rs.length + 32 * fs.length := by
  induction fs with
  | nil => intro s h _; exact ⟨h, by simp⟩
  | cons f r ih =>
    intro s h hf
    have h1 := hf f (by simp)
    have h2 := ih (s.one f) (by show (if s.x.last = 0 then f.1 else s.x.first) ≤ _; split <;> omega) (fun g hg => hf g (List.mem_cons_of_mem _ hg))
    have h3 := (tkr_le 32 f.2.length f.2).2
    have h4 : (s.one f).x.rs.length = s.x.rs.length + (tkr 32 f.2.length f.2).1.length := List.length_append
    rw [List.foldl_cons, List.length_cons]
    exact ⟨h2.1, by omega⟩
set_option maxRecDepth 100000 in
set_option maxHeartbeats 4000000 in
theorem load_any {w0 W : World} {C : Nat} {G : Nat → Prop} {q p : Nat} {x : PW} {d d' : PD} (h : Wa w0 C G W q p x d) (hg : Gl w0) (hn : x.nm ≠ []) (hn2 : x.nm.length ≤ 64) (hx : x.first ≤ 100000 ∧ x.rs = []) (fs : List (Nat × List UInt8)) (hs : nms d.seen = (fs.map (·.1)).map (pth x.nm)) (h1 : ∀ f ∈ fs, 1 ≤ f.1 ∧ f.1 ≤ 100000) (hl : fs.length ≤ 100) (hb : ∀ f ∈ fs, f.2.length ≤ 1000000000) (hrd : ∀ f ∈ fs, d.rd (pth x.nm f.1) = (f.2, 0)) (hol : d.ops.length ≤ 1000) (hC : C ≤ 1099511627776)
    (hfit : ∀ j (hj : j < fs.length), ((fs.take j).foldl Ld.one ⟨x, 0, 0, false⟩).fits fs[j]) (s : Ld) (hsf : fs.foldl Ld.one ⟨x, 0, 0, false⟩ = s)
    (hend : (s.used = s.size ∧ d' = d) ∨ (s.used < s.size ∧ ∃ d1, d1.ops.length ≤ 1000000 ∧ d.tr (pth x.nm s.x.last) s.used = (0, d1) ∧ d' = d1.sync)) :
    Calls Tryz.prog 23 #[.pointer (some ⟨q, 0, none⟩)] W fun e w' => e = .returned (.int .i64 0) ∧ Wa w0 C G w' q p s.x d' ∧ Kp G W w' := by
  have h46 := hide (numbers_any h hg hn2 (fs.map (·.1)) hs (fun n hm => by
    obtain ⟨f, hf, rfl⟩ := List.mem_map.1 hm
    exact ⟨(h1 f hf).1, by have := (h1 f hf).2; omega⟩) (by rw [List.length_map]; omega))
  rw [List.length_map] at h46
  have H := hide h
  have HG := hide hg
  have HN := hide hn
  have HX := hide hx
  have HS := hide hs
  have HH1 := hide h1
  have HB := hide hb
  have HRD := hide hrd
  have HFIT := hide hfit
  have HSF := hide hsf
  have HEND := hide hend
  have hfu := Tryz.follows
  clear h hg hn hs h1 hb hrd hfit hsf hend hx
  go_enter Tryz.func23, Tryz.ntmps23
  go_wp2_with (go_at_call 46; refine (unhide h46).mono ?_; rintro e w1 ⟨v, rfl, hown, hb1⟩; obtain ⟨an, cn, rfl, hcn, hgn⟩ := own_shape (own_since hown (Nat.zero_le _)); have HOWN := hide hown; have HGN := hide hgn; clear hown hgn)
  have HM := hide ((unhide H).more hb1)
  have HK1 := hide ((unhide H).kp hb1)
  obtain ⟨G1, hG1⟩ : ∃ z, z = (fun i => G i ∨ (W.heap.size ≤ i ∧ i < w1.heap.size)) := ⟨_, rfl⟩
  rw [← hG1] at HM
  have HG1 := hide hG1
  clear hG1
  go_loopw [3, 4, 5, 6, 8, 9, 10, 14] (fun v3 vu vs vo _ _ _ vi wr => ∃ k : Nat, k ≤ fs.length ∧ v3 = .slice none 0 0 ∧ vu = .int .i64 ((((fs.take k).foldl Ld.one ⟨x, 0, 0, false⟩).used : Nat) : Int) ∧ vs = .int .i64 ((((fs.take k).foldl Ld.one ⟨x, 0, 0, false⟩).size : Nat) : Int) ∧ vo = .bool ((fs.take k).foldl Ld.one ⟨x, 0, 0, false⟩).over ∧ vi = .int .i64 k ∧ Hid (Wa w0 C G1 wr q p ((fs.take k).foldl Ld.one ⟨x, 0, 0, false⟩).x d ∧ Kp G1 w1 wr)) (fun _ _ _ _ _ _ _ vi _ => fs.length - (intOf vi).toNat)
  case atStart => exact ⟨0, Nat.zero_le _, rfl, rfl, rfl, rfl, rfl, unhide HM, Kp.refl _ _⟩
  case round =>
    obtain ⟨k, hk, rfl, hvu, hvs, hvo, rfl, HO⟩ := hrel
    by_cases hlt : k < fs.length
    · have hki : (k : Int) < (fs.length : Int) := by omega
      obtain ⟨g, rfl⟩ := (unhide HGN) (by omega)
      have hgr := (unhide HOWN).lt g rfl
      have x0 : wr.cell? ⟨g, k, none⟩ = some (.int .i64 ((fs[k].1 : Nat) : Int)) := by
        rw [(unhide HO).2.cell (by rw [unhide HG1]; exact Or.inr hgr), (unhide HOWN).cellAt k (by omega)]
        simp [ncs, hlt]
      have hfit := (unhide HFIT) k hlt
      have hmem := List.getElem_mem hlt
      have hh1 := (unhide HH1) fs[k] hmem
      have hhb := (unhide HB) fs[k] hmem
      have hrd := (unhide HRD) fs[k] hmem
      have hnm := fold_nm (fs.take k) ⟨x, 0, 0, false⟩
      have his := fold_is (fs.take k) ⟨x, 0, 0, false⟩ (unhide HX).1 (fun f hf => ((unhide HH1) f (List.mem_of_mem_take hf)).2)
      have hfd : Hid ((fs.take (k + 1)).foldl Ld.one ⟨x, 0, 0, false⟩ = ((fs.take k).foldl Ld.one ⟨x, 0, 0, false⟩).one fs[k]) := by
        show _ = _
        rw [take_one fs k hlt, List.foldl_append]; rfl
      generalize (fs.take k).foldl Ld.one ⟨x, 0, 0, false⟩ = t at hvu hvs hvo HO hfit hnm his hfd
      generalize fs[k] = f at x0 hfit hh1 hhb hrd hfd
      obtain ⟨n, l⟩ := f
      simp only at x0 hh1 hhb hrd hnm his
      obtain ⟨hov, hla⟩ := hfit
      rw [hov] at hvo
      subst hvu hvs hvo
      rw [(unhide HX).2] at his
      have hrl : t.x.rs.length ≤ 4000 := by have := his.2; simp at this; omega
      have hISx : Is t.x := ⟨by rw [hnm]; exact unhide HN, his.1, by omega⟩
      rw [← hnm] at hrd
      have hnl : t.x.nm.length ≤ 64 := by rw [hnm]; exact hn2
      simp only at hla
      obtain ⟨a2, c2, hr2, _, _⟩ := (unhide HO).1.see
      have HR2 := hide hr2
      have c3 : wr.cell? ⟨q, 3, none⟩ = some (.int .i64 (t.x.last : Nat)) := cell_of hr2
      have h13 := hide (next_any (unhide HO).1 hISx)
      clear hr2 hmem his hnm
      by_cases h0 : t.x.last = 0
      case' pos =>
        have hq0 : (t.x.last : Int) = 0 := by omega
        go_wp2_with fail
        obtain ⟨w2, hw2, hb2⟩ : ∃ z, z = wr ∧ Bel wr z := ⟨wr, rfl, Bel.refl _⟩
        rw [← hw2]
        clear hw2
      case' neg =>
        have hq0 : ((t.x.last : Int) == 0) = false := by rw [beq_eq_false_iff_ne]; omega
        have hnx : t.x.first + t.x.rs.length = n := by rcases hla with h | h; exact absurd h h0; exact h
        rw [hnx] at h13
        go_wp2_with (go_at_call 13; refine (unhide h13).mono ?_; rintro e w2 ⟨rfl, hb2⟩)
      all_goals
        clear hq0 c3
        have HO2 := hide ((unhide HO).1.up hb2)
        have k0 : ∀ p2 : BelBy w2, p2.W.cell? ⟨q, 0, none⟩ = some (.pointer (some ⟨p, 0, none⟩)) := fun p2 => cell_of ((hb2.trans p2.h).row (unhide HR2))
        have h37 := hide (fun W (hb : Bel w2 W) => path_any ((hb2.trans hb).row (unhide HR2)) ((unhide HG).next ((unhide HO2).bel.trans hb)) hnl n (by omega))
        obtain ⟨vv, MM, BB, _, hdk, _⟩ := (unhide HO2).ex
        have h21 := hide (fun W (hb : Bel w2 W) => read_any (hdk.bel hb) (pth t.x.nm n) (by rw [pth_len]; unfold maxLen; omega))
        rw [hrd] at h21
        simp only at h21
        unfold vS at h37
        have hne := BelBy.some w2
        clear hdk
        refine wp_region_bel hfu (by kernel_rfl) ?_
        repeat (go_big_quiet_step (first | (go_at_call 37; with_reducible refine calls_by ((unhide h37) _ (BelBy.h _))) | (go_at_call 21; with_reducible refine calls_by ((unhide h21) _ (BelBy.h _)))))
        refine wpQuiet_nil ?_
        rintro W3 ⟨p3, rfl⟩
        have h47 := hide (take_any ((unhide HO2).up p3.h) (by omega) n l hhb)
        have hb3 := hide (hb2.trans p3.h)
        have htl := tkr_le 32 l.length l
        have hone : Hid (t.one (n, l) = ⟨⟨t.x.nm, if t.x.last = 0 then n else t.x.first, n, t.x.rs ++ (tkr 32 l.length l).1⟩, l.length - (tkr 32 l.length l).2.length, l.length, decide ((if t.x.last = 0 then n else t.x.first) + (t.x.rs ++ (tkr 32 l.length l).1).length < n + 32) || decide (l.length - (tkr 32 l.length l).2.length < l.length)⟩) := rfl
        clear k0 hne
        generalize tkr 32 l.length l = T at h47 htl hone
        obtain ⟨r1, r2⟩ := T
        simp only at h47 htl hone
        obtain ⟨x5, hx5⟩ : ∃ z, z = (⟨t.x.nm, if t.x.last = 0 then n else t.x.first, n, t.x.rs ++ r1⟩ : PW) := ⟨_, rfl⟩
        rw [← hx5] at h47
        have hI5 : Hid (Is x5) := by
          show Is x5
          rw [hx5]
          refine ⟨hISx.nm, ?_, ?_⟩
          · show (if t.x.last = 0 then n else t.x.first) ≤ _
            have := hISx.fi
            split <;> omega
          · show (t.x.rs ++ r1).length ≤ _
            rw [List.length_append]
            omega
        have hnx5 : Hid (x5.first + x5.rs.length = (if t.x.last = 0 then n else t.x.first) + (t.x.rs ++ r1).length) := by
          show _ = _
          rw [hx5]
        have hnb : x5.first + x5.rs.length ≤ 200000 := by have h1 := (unhide hI5).fi; have h2 := (unhide hI5).le; omega
        have HX5 := hide hx5
        have hrd2 : r2.length ≤ l.length := htl.1
        clear hx5 htl h37 h21 h13
        go_wp2_with (go_at_call 47; refine (unhide h47).mono ?_; rintro e w4 ⟨rfl, hwa4, hkp4⟩; have H4 := hide hwa4; have K4 := hide hkp4; clear hwa4 hkp4)
        refine (next_any (unhide H4) (unhide hI5)).mono ?_
        rintro e w5 ⟨rfl, hb5⟩
        have H5 := hide ((unhide H4).up hb5)
        have K5 := hide (((((unhide HO).1.kp (unhide hb3)).trans (unhide K4)).trans ((unhide H4).kp hb5)))
        have K6 := hide ((unhide HO).2.trans (unhide K5))
        rw [← unhide hnx5] at hone
        clear h47 H4 K4 hb5 K5
        generalize x5.first + x5.rs.length = nx at hone hnb hnx5
        by_cases hA : nx < n + 32
        · have hA1 : (nx : Int) - (n : Int) < 32 := by omega
          go_wp2_with fail
          go_roundw
          case rel =>
            refine ⟨k + 1, by omega, rfl, ?_, ?_, ?_, by go_num, ?_⟩
            · rw [unhide hfd, unhide hone]
            · rw [unhide hfd, unhide hone]
            · rw [unhide hfd, unhide hone]; simp [hA]
            · rw [unhide hfd, unhide hone, ← unhide HX5]; exact ⟨unhide H5, unhide K6⟩
          case measure => simp [intOf]; omega
        · have hA1 : ¬ (nx : Int) - (n : Int) < 32 := by omega
          by_cases hB : l.length - r2.length < l.length
          · have hB1 : ((l.length - r2.length : Nat) : Int) < (l.length : Int) := by omega
            go_wp2_with fail
            go_roundw
            case rel =>
              refine ⟨k + 1, by omega, rfl, ?_, ?_, ?_, by go_num, ?_⟩
              · rw [unhide hfd, unhide hone]
              · rw [unhide hfd, unhide hone]
              · rw [unhide hfd, unhide hone]; simp [hB]
              · rw [unhide hfd, unhide hone, ← unhide HX5]; exact ⟨unhide H5, unhide K6⟩
            case measure => simp [intOf]; omega
          · have hB1 : ¬ ((l.length - r2.length : Nat) : Int) < (l.length : Int) := by omega
            go_wp2_with fail
            go_roundw
            case rel =>
              refine ⟨k + 1, by omega, rfl, ?_, ?_, ?_, by go_num, ?_⟩
              · rw [unhide hfd, unhide hone]
              · rw [unhide hfd, unhide hone]
              · rw [unhide hfd, unhide hone]; simp [hA, hB]; omega
              · rw [unhide hfd, unhide hone, ← unhide HX5]; exact ⟨unhide H5, unhide K6⟩
            case measure => simp [intOf]; omega
    · have hki : ¬ (k : Int) < (fs.length : Int) := by omega
      have hkn : k = fs.length := by omega
      rw [hkn, List.take_length, unhide HSF] at hvu hvs hvo HO
      subst hvu hvs hvo
      have hless : ∀ i, G i → G1 i := fun i hi => by rw [unhide HG1]; exact Or.inl hi
      have hkw := hide ((unhide HK1).trans ((unhide HO).2.less hless))
      have hg0' := hide (unhide H).g0
      have HL := hide hless
      have hsn : s.x.nm = x.nm := by rw [← unhide HSF]; exact fold_nm _ _
      have hsl : s.x.last ≤ 100000 ∨ fs = [] := by
        rw [← unhide HSF]
        rcases List.eq_nil_or_concat fs with h | ⟨ys, y, h⟩
        · exact Or.inr h
        · refine Or.inl ?_
          rw [h, List.concat_eq_append, List.foldl_append]
          exact ((unhide HH1) y (by rw [h]; simp)).2
      rcases unhide HEND with ⟨hus, hdd⟩ | ⟨hus, d1, ho1, ht1, hdd⟩
      · subst hdd
        rw [hus]
        clear hless hsn hsl
        go_wp2_with (go_at_call 48; refine (clean_ok q s.size 0 none wr).mono ?_; rintro e w5 ⟨rfl, hw5⟩; rw [hw5]; clear hw5)
        go_ret
        exact ⟨rfl, (unhide HO).1.less (unhide HL) (unhide hg0'), unhide hkw⟩
      · subst hdd
        have hfs : s.x.last ≤ 100000 := by
          rcases hsl with h | h
          · exact h
          · exfalso
            have := unhide HSF
            rw [h] at this
            rw [← this] at hus
            exact absurd hus (by simp)
        have h48 := hide (clean_cut ((unhide HO).1.less (unhide HL) (unhide hg0')) (unhide HG) (by rw [hsn]; exact unhide HN) (by rw [hsn]; exact hn2) (by omega) s.used s.size 0 none hus hol hC ho1 (by rw [hsn]; exact ht1))
        clear hless hsn hsl ht1
        go_wp2_with (go_at_call 48; refine (unhide h48).mono ?_; rintro e w5 ⟨rfl, hwa5, hkp5⟩)
        go_ret
        exact ⟨rfl, hwa5, (unhide hkw).trans hkp5⟩
end Go.Proofs.YtgimciacapfbfaaGreatDoor
