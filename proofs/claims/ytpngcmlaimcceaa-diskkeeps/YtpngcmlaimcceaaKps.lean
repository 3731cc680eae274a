/- Whatever a crash keeps, what was synced is there: the law's walk. -/
import Derived.Test.YtpngcmlaimcceaaAli
namespace Go.Proofs.Ytpngcmlaimcceaa
open Go.RowKit Go.Maps Go.WideMaps
def K1 (b : List UInt8) : PD := ⟨1048576, [([102], b)], [], [.wr [102] b]⟩
def K2 (b : List UInt8) : PD := ⟨1048576, [([102], b)], [([102], b)], []⟩
def K3 (b a : List UInt8) : PD := ⟨1048576, [([102], b ++ a)], [([102], b)], [.app [102] a]⟩
def K4 (b a : List UInt8) : PD := ⟨1048576, [([102], b ++ a), ([103], a)], [([102], b)], [.app [102] a, .app [103] a]⟩
theorem bad1 : badN [102] = false := by decide
theorem bad2 : badN [103] = false := by decide
theorem k_one (b : List UInt8) (h : b.length ≤ 16384) : (PD.new 1048576).wr [102] b = (0, K1 b) := by
  unfold PD.wr
  rw [bad1, if_neg (by simp)]
  unfold PD.grow
  rw [if_neg]
  · rfl
  · rintro (h1 | h1)
    · have : (get (PD.new 1048576).seen [102]).length = 0 := rfl
      have : ((PD.new 1048576).room : Int) = 1048576 := rfl
      have : (tot (PD.new 1048576).seen : Int) = 0 := rfl
      omega
    · have : (PD.new 1048576).seen.length = 0 := rfl
      omega
theorem k_two (b : List UInt8) : (K1 b).sync = K2 b := rfl
theorem k_three (b a : List UInt8) (h : b.length + a.length ≤ 16384) : (K2 b).app [102] a = (0, K3 b a) := by
  unfold PD.app
  rw [bad1, if_neg (by simp)]
  unfold PD.grow
  rw [if_neg]
  · rfl
  · rintro (h1 | h1)
    · have : ((K2 b).room : Int) = 1048576 := rfl
      have : tot (K2 b).seen = b.length := rfl
      omega
    · have : (K2 b).seen.length = 1 := rfl
      omega
theorem k_four (b a : List UInt8) (h : b.length + a.length ≤ 16384) : (K3 b a).app [103] a = (0, K4 b a) := by
  unfold PD.app
  rw [bad2, if_neg (by simp)]
  unfold PD.grow
  rw [if_neg]
  · rfl
  · rintro (h1 | h1)
    · have : ((K3 b a).room : Int) = 1048576 := rfl
      have : tot (K3 b a).seen = b.length + a.length := by show (b ++ a).length + 0 = _; simp
      omega
    · have : (K3 b a).seen.length = 1 := rfl
      omega
def K5 (S : Fs) : PD := ⟨1048576, S, S, []⟩
theorem k_crash (b a : List UInt8) (k t : Nat) (hk : k ≤ 2) : (K4 b a).crash k t = (0, K5 ((K4 b a).left k t)) := by
  unfold PD.crash
  rw [if_neg]
  · rfl
  · have : (K4 b a).ops.length = 2 := rfl
    omega
theorem k_l0 (b a : List UInt8) (t : Nat) : (K4 b a).left 0 t = [([102], b ++ a.take (min t a.length))] := by
  show (if min t a.length = 0 then [([102], b)] else [([102], b ++ a.take (min t a.length))]) = _
  split
  · rename_i h; rw [h]; simp
  · rfl
theorem k_l1 (b a : List UInt8) (t : Nat) : (K4 b a).left 1 t = if min t a.length = 0 then [([102], b ++ a)] else [([102], b ++ a), ([103], a.take (min t a.length))] := rfl
theorem k_l2 (b a : List UInt8) (t : Nat) : (K4 b a).left 2 t = [([102], b ++ a), ([103], a)] := rfl
theorem k_r1 (x : List UInt8) : (K5 [([102], x)]).rd [102] = (x, 0) := rfl
theorem k_r2 (x : List UInt8) : (K5 [([102], x)]).rd [103] = ([], 5) := rfl
theorem k_r3 (x y : List UInt8) : (K5 [([102], x), ([103], y)]).rd [102] = (x, 0) := rfl
theorem k_r4 (x y : List UInt8) : (K5 [([102], x), ([103], y)]).rd [103] = (y, 0) := rfl
theorem al_read1 {w0 W : World} {C p : Nat} {d : PD} (h : Al w0 C p d W) (n : List UInt8) (hn : n.length ≤ 1000) {s : List UInt8} {r : Nat} (e : d.rd n = (s, r)) :
    Calls Try.prog 23 #[.pointer (some ⟨p, 0, none⟩), .string ⟨n.toArray⟩] W fun e w' => e = .returned (.tuple #[.string ⟨s.toArray⟩, .int .i64 r]) ∧ Al w0 C p d w' := by
  have := al_read h n (ml hn)
  rw [e] at this
  exact this
theorem and16 (k : Int) : ∃ x : Nat, bits BinOp.and IntKind.i64 k 65535 = (x : Int) ∧ x ≤ 65535 := by
  refine ⟨(BitVec.ofInt 64 k &&& BitVec.ofInt 64 65535).toNat, ?_, ?_⟩
  · show IntKind.i64.wrap ((BitVec.ofInt 64 k &&& BitVec.ofInt 64 65535).toNat : Int) = _
    have h : (BitVec.ofInt 64 k &&& BitVec.ofInt 64 65535).toNat ≤ 65535 := by
      rw [BitVec.toNat_and]
      exact Nat.le_trans Nat.and_le_right (by decide)
    exact wrapI (by omega) (by omega)
  · rw [BitVec.toNat_and]
    exact Nat.le_trans Nat.and_le_right (by decide)
theorem mod3 (x : Nat) : ∃ r : Nat, (x : Int).tmod 3 = (r : Int) ∧ r ≤ 2 := ⟨x % 3, by rw [Int.tmod_eq_emod_of_nonneg (by omega)]; omega, by omega⟩
theorem k_txt (b a : List UInt8) (C : Nat) (h : a.length ≤ C) : ∀ o ∈ (K4 b a).ops, (txt5 o).length ≤ C := by
  intro o ho
  have : o = .app [102] a ∨ o = .app [103] a := by simpa [K4] using ho
  rcases this with rfl | rfl <;> exact h
set_option maxRecDepth 100000 in
set_option maxHeartbeats 1000000 in
theorem keeps_law (b a : List UInt8) (k t : Int) (w : World) (hb : b.length ≤ 200000000000000) (ha : a.length ≤ 200000000000000) : Calls Try.prog 5 #[.string ⟨b.toArray⟩, .string ⟨a.toArray⟩, .int .i64 k, .int .i64 t] w fun e w' => e = .returned (.bool true) ∧ Bel w w' := by
  obtain ⟨x, hx, hx2⟩ := and16 k
  obtain ⟨y, hy, hy2⟩ := and16 t
  obtain ⟨r, hr, hr2⟩ := mod3 x
  have hwr : wrap64 ((b.length : Int) + (a.length : Int)) = (b.length : Int) + (a.length : Int) := by unfold wrap64; omega
  by_cases hbig : 16384 < b.length + a.length
  · have hbig' : (16384 : Int) < (b.length : Int) + (a.length : Int) := by omega
    go_enter Try.func5, Try.ntmps5
    go_wp2_with (go_at_call 14; refine (alive_any _).mono ?_; rintro e w14 ⟨rfl, hb14⟩)
    go_ret
    exact ⟨rfl, hb14⟩
  · have hbig' : ¬ (16384 : Int) < (b.length : Int) + (a.length : Int) := by omega
    have hs : b.length + a.length ≤ 16384 := by omega
    have HS := hide hs
    clear hs hbig
    go_enter Try.func5, Try.ntmps5
    go_wp2_with fail
    refine (al_new 1048576 (by decide) 0 w w (Bel.refl w)).mono ?_
    rintro e w1 ⟨p, rfl, h1⟩
    have H1 := hide h1
    clear h1
    go_wp2_with fail
    have c2 := al_wr (unhide H1) [102] b (ml (by decide)) (by decide) (by have := unhide HS; omega)
    rw [k_one b (by have := unhide HS; omega)] at c2
    refine c2.mono ?_
    rintro e w2 ⟨rfl, h2⟩
    have H2 := hide h2
    clear h2 c2
    go_wp2_with fail
    refine (al_sync (unhide H2) (show 1 ≤ 1000000 by decide)).mono ?_
    rintro e w3 ⟨rfl, h3⟩
    rw [k_two] at h3
    have H3 := hide h3
    clear h3
    go_wp2_with fail
    have c4 := al_app (unhide H3) [102] a (ml (by decide)) (show 0 ≤ 1000000 by decide) (by have := unhide HS; omega)
    rw [k_three b a (unhide HS)] at c4
    refine c4.mono ?_
    rintro e w4 ⟨rfl, h4⟩
    have H4 := hide h4
    clear h4 c4
    go_wp2_with fail
    have c5 := al_app (unhide H4) [103] a (ml (by decide)) (show 1 ≤ 1000000 by decide) (by have := unhide HS; omega)
    rw [k_four b a (unhide HS)] at c5
    refine c5.mono ?_
    rintro e w5 ⟨rfl, h5⟩
    have H5 := hide h5
    clear h5 c5
    have hEe := app_str b
    have hEt := ext_str a
    have hcase : r = 0 ∨ r = 1 ∨ r = 2 := by omega
    clear hr2 hx2 hb ha
    have HY2 := hide hy2
    clear hy2
    rcases Nat.lt_trichotomy a.length y with hlt | hlt | hlt
    · have hmn : min y a.length = a.length := by omega
      rcases hcase with rfl | rfl | rfl
      · go_wp2_with fail
        have c6 := al_crash (unhide H5) 0 y (show 2 ≤ 1000000 by decide) (by have := unhide HS; omega) (k_txt b a _ (by omega)) (by decide) (by have := unhide HY2; omega)
        have c6e := k_crash b a 0 y (by decide)
        rw [k_l0, hmn] at c6e
        rw [show ((0 : Nat) : Int) = 0 from rfl] at c6e
        rw [c6e] at c6
        refine c6.mono ?_
        rintro e w6 ⟨rfl, h6⟩
        have H6 := hide h6
        clear h6 c6 c6e
        go_wp2_with fail
        refine (al_read1 (unhide H6) [102] (by decide) (k_r1 _)).mono ?_
        rintro e w7 ⟨rfl, h7⟩
        have H7 := hide h7
        clear h7
        go_wp2_with fail
        refine (al_read1 (unhide H7) [103] (by decide) (k_r2 _)).mono ?_
        rintro e w8 ⟨rfl, h8⟩
        have H8 := hide h8
        clear h8
        go_wp2_with (go_at_call 14; refine (alive_any _).mono ?_; rintro e w14 ⟨rfl, hb14⟩)
        go_ret
        exact ⟨rfl, (unhide H8).base.trans hb14⟩
      · go_wp2_with fail
        have c6 := al_crash (unhide H5) 1 y (show 2 ≤ 1000000 by decide) (by have := unhide HS; omega) (k_txt b a _ (by omega)) (by decide) (by have := unhide HY2; omega)
        have c6e := k_crash b a 1 y (by decide)
        rw [k_l1, hmn] at c6e
        rw [show ((1 : Nat) : Int) = 1 from rfl] at c6e
        by_cases hz : a.length = 0
        · rw [if_pos hz] at c6e
          rw [c6e] at c6
          refine c6.mono ?_
          rintro e w6 ⟨rfl, h6⟩
          have H6 := hide h6
          clear h6 c6 c6e
          go_wp2_with fail
          refine (al_read1 (unhide H6) [102] (by decide) (k_r1 _)).mono ?_
          rintro e w7 ⟨rfl, h7⟩
          have H7 := hide h7
          clear h7
          go_wp2_with fail
          refine (al_read1 (unhide H7) [103] (by decide) (k_r2 _)).mono ?_
          rintro e w8 ⟨rfl, h8⟩
          have H8 := hide h8
          clear h8
          go_wp2_with (go_at_call 14; refine (alive_any _).mono ?_; rintro e w14 ⟨rfl, hb14⟩)
          go_ret
          exact ⟨rfl, (unhide H8).base.trans hb14⟩
        · rw [if_neg hz] at c6e
          rw [c6e] at c6
          refine c6.mono ?_
          rintro e w6 ⟨rfl, h6⟩
          have H6 := hide h6
          clear h6 c6 c6e
          go_wp2_with fail
          refine (al_read1 (unhide H6) [102] (by decide) (k_r3 _ _)).mono ?_
          rintro e w7 ⟨rfl, h7⟩
          have H7 := hide h7
          clear h7
          go_wp2_with fail
          refine (al_read1 (unhide H7) [103] (by decide) (k_r4 _ _)).mono ?_
          rintro e w8 ⟨rfl, h8⟩
          have H8 := hide h8
          clear h8
          go_wp2_with (go_at_call 14; refine (alive_any _).mono ?_; rintro e w14 ⟨rfl, hb14⟩)
          go_ret
          exact ⟨rfl, (unhide H8).base.trans hb14⟩
      · go_wp2_with fail
        have c6 := al_crash (unhide H5) 2 y (show 2 ≤ 1000000 by decide) (by have := unhide HS; omega) (k_txt b a _ (by omega)) (by decide) (by have := unhide HY2; omega)
        have c6e := k_crash b a 2 y (by decide)
        rw [k_l2] at c6e
        rw [show ((2 : Nat) : Int) = 2 from rfl] at c6e
        rw [c6e] at c6
        refine c6.mono ?_
        rintro e w6 ⟨rfl, h6⟩
        have H6 := hide h6
        clear h6 c6 c6e
        go_wp2_with fail
        refine (al_read1 (unhide H6) [102] (by decide) (k_r3 _ _)).mono ?_
        rintro e w7 ⟨rfl, h7⟩
        have H7 := hide h7
        clear h7
        go_wp2_with fail
        refine (al_read1 (unhide H7) [103] (by decide) (k_r4 _ _)).mono ?_
        rintro e w8 ⟨rfl, h8⟩
        have H8 := hide h8
        clear h8
        go_wp2_with (go_at_call 14; refine (alive_any _).mono ?_; rintro e w14 ⟨rfl, hb14⟩)
        go_ret
        exact ⟨rfl, (unhide H8).base.trans hb14⟩
    · subst hlt
      have hmn : min a.length a.length = a.length := by omega
      rcases hcase with rfl | rfl | rfl
      · go_wp2_with fail
        have c6 := al_crash (unhide H5) 0 a.length (show 2 ≤ 1000000 by decide) (by have := unhide HS; omega) (k_txt b a _ (by omega)) (by decide) (by have := unhide HY2; omega)
        have c6e := k_crash b a 0 a.length (by decide)
        rw [k_l0, hmn] at c6e
        rw [show ((0 : Nat) : Int) = 0 from rfl] at c6e
        rw [c6e] at c6
        refine c6.mono ?_
        rintro e w6 ⟨rfl, h6⟩
        have H6 := hide h6
        clear h6 c6 c6e
        go_wp2_with fail
        refine (al_read1 (unhide H6) [102] (by decide) (k_r1 _)).mono ?_
        rintro e w7 ⟨rfl, h7⟩
        have H7 := hide h7
        clear h7
        go_wp2_with fail
        refine (al_read1 (unhide H7) [103] (by decide) (k_r2 _)).mono ?_
        rintro e w8 ⟨rfl, h8⟩
        have H8 := hide h8
        clear h8
        go_wp2_with (go_at_call 14; refine (alive_any _).mono ?_; rintro e w14 ⟨rfl, hb14⟩)
        go_ret
        exact ⟨rfl, (unhide H8).base.trans hb14⟩
      · go_wp2_with fail
        have c6 := al_crash (unhide H5) 1 a.length (show 2 ≤ 1000000 by decide) (by have := unhide HS; omega) (k_txt b a _ (by omega)) (by decide) (by have := unhide HY2; omega)
        have c6e := k_crash b a 1 a.length (by decide)
        rw [k_l1, hmn] at c6e
        rw [show ((1 : Nat) : Int) = 1 from rfl] at c6e
        by_cases hz : a.length = 0
        · rw [if_pos hz] at c6e
          rw [c6e] at c6
          refine c6.mono ?_
          rintro e w6 ⟨rfl, h6⟩
          have H6 := hide h6
          clear h6 c6 c6e
          go_wp2_with fail
          refine (al_read1 (unhide H6) [102] (by decide) (k_r1 _)).mono ?_
          rintro e w7 ⟨rfl, h7⟩
          have H7 := hide h7
          clear h7
          go_wp2_with fail
          refine (al_read1 (unhide H7) [103] (by decide) (k_r2 _)).mono ?_
          rintro e w8 ⟨rfl, h8⟩
          have H8 := hide h8
          clear h8
          go_wp2_with (go_at_call 14; refine (alive_any _).mono ?_; rintro e w14 ⟨rfl, hb14⟩)
          go_ret
          exact ⟨rfl, (unhide H8).base.trans hb14⟩
        · rw [if_neg hz] at c6e
          rw [c6e] at c6
          refine c6.mono ?_
          rintro e w6 ⟨rfl, h6⟩
          have H6 := hide h6
          clear h6 c6 c6e
          go_wp2_with fail
          refine (al_read1 (unhide H6) [102] (by decide) (k_r3 _ _)).mono ?_
          rintro e w7 ⟨rfl, h7⟩
          have H7 := hide h7
          clear h7
          go_wp2_with fail
          refine (al_read1 (unhide H7) [103] (by decide) (k_r4 _ _)).mono ?_
          rintro e w8 ⟨rfl, h8⟩
          have H8 := hide h8
          clear h8
          go_wp2_with (go_at_call 14; refine (alive_any _).mono ?_; rintro e w14 ⟨rfl, hb14⟩)
          go_ret
          exact ⟨rfl, (unhide H8).base.trans hb14⟩
      · go_wp2_with fail
        have c6 := al_crash (unhide H5) 2 a.length (show 2 ≤ 1000000 by decide) (by have := unhide HS; omega) (k_txt b a _ (by omega)) (by decide) (by have := unhide HY2; omega)
        have c6e := k_crash b a 2 a.length (by decide)
        rw [k_l2] at c6e
        rw [show ((2 : Nat) : Int) = 2 from rfl] at c6e
        rw [c6e] at c6
        refine c6.mono ?_
        rintro e w6 ⟨rfl, h6⟩
        have H6 := hide h6
        clear h6 c6 c6e
        go_wp2_with fail
        refine (al_read1 (unhide H6) [102] (by decide) (k_r3 _ _)).mono ?_
        rintro e w7 ⟨rfl, h7⟩
        have H7 := hide h7
        clear h7
        go_wp2_with fail
        refine (al_read1 (unhide H7) [103] (by decide) (k_r4 _ _)).mono ?_
        rintro e w8 ⟨rfl, h8⟩
        have H8 := hide h8
        clear h8
        go_wp2_with (go_at_call 14; refine (alive_any _).mono ?_; rintro e w14 ⟨rfl, hb14⟩)
        go_ret
        exact ⟨rfl, (unhide H8).base.trans hb14⟩
    · have hmn : min y a.length = y := by omega
      have hle : y ≤ a.length := by omega
      rcases hcase with rfl | rfl | rfl
      · go_wp2_with fail
        have c6 := al_crash (unhide H5) 0 y (show 2 ≤ 1000000 by decide) (by have := unhide HS; omega) (k_txt b a _ (by omega)) (by decide) (by have := unhide HY2; omega)
        have c6e := k_crash b a 0 y (by decide)
        rw [k_l0, hmn] at c6e
        rw [show ((0 : Nat) : Int) = 0 from rfl] at c6e
        rw [c6e] at c6
        refine c6.mono ?_
        rintro e w6 ⟨rfl, h6⟩
        have H6 := hide h6
        clear h6 c6 c6e
        go_wp2_with fail
        refine (al_read1 (unhide H6) [102] (by decide) (k_r1 _)).mono ?_
        rintro e w7 ⟨rfl, h7⟩
        have H7 := hide h7
        clear h7
        go_wp2_with fail
        refine (al_read1 (unhide H7) [103] (by decide) (k_r2 _)).mono ?_
        rintro e w8 ⟨rfl, h8⟩
        have H8 := hide h8
        clear h8
        go_wp2_with (go_at_call 14; refine (alive_any _).mono ?_; rintro e w14 ⟨rfl, hb14⟩)
        go_ret
        exact ⟨rfl, (unhide H8).base.trans hb14⟩
      · go_wp2_with fail
        have c6 := al_crash (unhide H5) 1 y (show 2 ≤ 1000000 by decide) (by have := unhide HS; omega) (k_txt b a _ (by omega)) (by decide) (by have := unhide HY2; omega)
        have c6e := k_crash b a 1 y (by decide)
        rw [k_l1, hmn] at c6e
        rw [show ((1 : Nat) : Int) = 1 from rfl] at c6e
        by_cases hz : y = 0
        · rw [if_pos hz] at c6e
          rw [c6e] at c6
          refine c6.mono ?_
          rintro e w6 ⟨rfl, h6⟩
          have H6 := hide h6
          clear h6 c6 c6e
          go_wp2_with fail
          refine (al_read1 (unhide H6) [102] (by decide) (k_r1 _)).mono ?_
          rintro e w7 ⟨rfl, h7⟩
          have H7 := hide h7
          clear h7
          go_wp2_with fail
          refine (al_read1 (unhide H7) [103] (by decide) (k_r2 _)).mono ?_
          rintro e w8 ⟨rfl, h8⟩
          have H8 := hide h8
          clear h8
          go_wp2_with (go_at_call 14; refine (alive_any _).mono ?_; rintro e w14 ⟨rfl, hb14⟩)
          go_ret
          exact ⟨rfl, (unhide H8).base.trans hb14⟩
        · rw [if_neg hz] at c6e
          rw [c6e] at c6
          refine c6.mono ?_
          rintro e w6 ⟨rfl, h6⟩
          have H6 := hide h6
          clear h6 c6 c6e
          go_wp2_with fail
          refine (al_read1 (unhide H6) [102] (by decide) (k_r3 _ _)).mono ?_
          rintro e w7 ⟨rfl, h7⟩
          have H7 := hide h7
          clear h7
          go_wp2_with fail
          refine (al_read1 (unhide H7) [103] (by decide) (k_r4 _ _)).mono ?_
          rintro e w8 ⟨rfl, h8⟩
          have H8 := hide h8
          clear h8
          go_wp2_with (go_at_call 14; refine (alive_any _).mono ?_; rintro e w14 ⟨rfl, hb14⟩)
          go_ret
          exact ⟨rfl, (unhide H8).base.trans hb14⟩
      · go_wp2_with fail
        have c6 := al_crash (unhide H5) 2 y (show 2 ≤ 1000000 by decide) (by have := unhide HS; omega) (k_txt b a _ (by omega)) (by decide) (by have := unhide HY2; omega)
        have c6e := k_crash b a 2 y (by decide)
        rw [k_l2] at c6e
        rw [show ((2 : Nat) : Int) = 2 from rfl] at c6e
        rw [c6e] at c6
        refine c6.mono ?_
        rintro e w6 ⟨rfl, h6⟩
        have H6 := hide h6
        clear h6 c6 c6e
        go_wp2_with fail
        refine (al_read1 (unhide H6) [102] (by decide) (k_r3 _ _)).mono ?_
        rintro e w7 ⟨rfl, h7⟩
        have H7 := hide h7
        clear h7
        go_wp2_with fail
        refine (al_read1 (unhide H7) [103] (by decide) (k_r4 _ _)).mono ?_
        rintro e w8 ⟨rfl, h8⟩
        have H8 := hide h8
        clear h8
        go_wp2_with (go_at_call 14; refine (alive_any _).mono ?_; rintro e w14 ⟨rfl, hb14⟩)
        go_ret
        exact ⟨rfl, (unhide H8).base.trans hb14⟩
end Go.Proofs.Ytpngcmlaimcceaa
