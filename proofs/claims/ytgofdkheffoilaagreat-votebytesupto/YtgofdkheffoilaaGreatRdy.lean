/- The program's reader: Entries. -/
import Derived.Test.YtgofdkheffoilaaGreatRdx
import Derived.Test.YtgofdkheffoilaaGreatEle
namespace Go.Proofs.YtgofdkheffoilaaGreat
open Go.RowKit Go.Maps
/-- The entries' members lie in memory of their own. -/
def Gn (base : Nat) (w : World) (l : List (GE × GA)) : Prop := ∀ x ∈ l, E3.O base w (.slice x.2.a x.1.m.length x.2.c) x.1.m
theorem Gn.gm {base : Nat} {w : World} {l : List (GE × GA)} (h : Gn base w l) : Gm w l := fun x hx => (Sl.of (h x hx)).1
theorem Gn.bel {base : Nat} {w w' : World} {l : List (GE × GA)} (h : Gn base w l) (hb : Bel w w') : Gn base w' l := fun x hx => (h x hx).bel hb
theorem Gn.mono {base base' : Nat} {w : World} {l : List (GE × GA)} (h : Gn base w l) (hb : base' ≤ base) : Gn base' w l := fun x hx => (h x hx).mono hb
theorem Gn.off {base b : Nat} {w w' : World} {l : List (GE × GA)} (h : Gn base w l) (hc : Ch (fun i => i = b) w w') (hb : b < base) : Gn base w' l := fun x hx => (h x hx).off hc hb
theorem Gn.bx {base b : Nat} {w w' : World} {l : List (GE × GA)} {c : Array Value} {t : Nat} (h : Gn base w l) (hr : w.heap[b]? = some (.cells c t)) (ht : 3 ≠ t) (hc : Ch (fun k => k = b) w w') : Gn base w' l := fun x hx => (h x hx).bx hr ht hc
theorem Gn.snoc {base : Nat} {w : World} {l : List (GE × GA)} {x : GE × GA} (h : Gn base w l) (hx : E3.O base w (.slice x.2.a x.1.m.length x.2.c) x.1.m) : Gn base w (l ++ [x]) := fun y hy => by
  rcases List.mem_append.1 hy with hy | hy
  · exact h y hy
  · rw [List.mem_singleton.1 hy]; exact hx
/-- A row grows: rows of another type stay. -/
theorem O_grown {α β : Type} {E : El α} {F : El β} {base base' : Nat} {w w' : World} {u v : Value} {l : List α} {k : List β} {o : Obj} (h : E.O base w u l) (hv : F.O base' w v k) (he : E.e ≠ F.e) (hg : (w.alloc o).grownBy w' v.ownBlock) : E.O base w' u l := by
  have h2 := h.bel ((Bel.refl w).alloc o)
  refine h2.at (fun j hj => hg.block j (h2.lt hj).2 (fun e => ?_))
  obtain ⟨c1, hc1⟩ := h.block hj
  obtain ⟨c2, hc2⟩ := hv.block e.symm
  rw [hc1] at hc2
  injection (Option.some.inj hc2) with _ h3
  exact he h3
theorem Gn.app {β : Type} {F : El β} {base base' : Nat} {w w' : World} {v : Value} {l : List (GE × GA)} {k : List β} {o : Obj} (h : Gn base w l) (hv : F.O base' w v k) (he : 3 ≠ F.e) (hg : (w.alloc o).grownBy w' v.ownBlock) : Gn base w' l := fun x hx => O_grown (h x hx) hv he hg
/-- So many entries are read. -/
def pentsN : Nat → ByteArray → Bool → List GE × ByteArray × Bool
  | 0, s, f => ([], s, f)
  | n + 1, s, f => if f then ([], s, f) else ((pent s f).1 :: (pentsN n (pent s f).2.1 (pent s f).2.2).1, (pentsN n (pent s f).2.1 (pent s f).2.2).2)
def pents (m : Nat) (s : ByteArray) (f : Bool) : List GE × ByteArray × Bool := pentsN (pupto m s f).1 (pupto m s f).2.1 (pupto m s f).2.2
set_option maxRecDepth 100000 in
set_option maxHeartbeats 2000000 in
theorem rents_any {W : World} {b : Nat} {s : ByteArray} {f : Bool} (h : Rst W b s f) (hs : s.size ≤ 150000000000000) (m : Nat) (hm : m ≤ 10000000000) : Calls Tryz.prog 67 #[.pointer (some ⟨b, 0, none⟩), .int .i64 (m : Int)] W fun e w' => ∃ a c l, e = .returned (.slice a (pents m s f).1.length c) ∧ l.map (·.1) = (pents m s f).1 ∧ Rq EG W w' b (pents m s f).2.1 (pents m s f).2.2 (.slice a (pents m s f).1.length c) l ∧ Gn W.heap.size w' l := by
  have HC := hide (upto_any h hs m (by omega))
  have hf := pupto_facts m s f
  unfold pents
  have HL := hide (lt_of_some h)
  generalize pupto m s f = r at *
  obtain ⟨n, s1, f1⟩ := r
  simp only at HC hf ⊢
  have hs1 : s1.size ≤ 150000000000000 := by omega
  have HNM : Hid (n ≤ 10000000000) := hide (by omega)
  have HS := hide hs1
  clear h hs hf hs1 hm
  go_enter Tryz.func67, Tryz.ntmps67
  go_wp2_with (first
    | (go_at_call 111; refine (unhide HC).mono ?_; rintro e w1 ⟨rfl, hr1, hc1⟩; have HR1 := hide (And.intro hr1 hc1); clear hr1 hc1))
  have hn0 : n < 9223372036854775807 := by have := unhide HNM; omega
  go_loopw [5, 9] (fun vo vk wr => ∃ (k : Nat) (l : List (GE × GA)) (sk : ByteArray) (fk : Bool), k ≤ n ∧ vk = .int .i64 k ∧ l.length = k ∧ Hid (sk.size ≤ 150000000000000) ∧ Hid (Rq EG W wr b sk fk vo l) ∧ Hid (Gn W.heap.size wr l) ∧ Hid (pentsN n s1 f1 = (l.map (·.1) ++ (pentsN (n - k) sk fk).1, (pentsN (n - k) sk fk).2))) (fun _ vk _ => n - (intOf vk).toNat)
  case atStart => exact ⟨0, [], s1, f1, Nat.zero_le _, rfl, rfl, HS, hide ⟨(unhide HR1).1, El.O.nil _ _, (unhide HR1).2, unhide HL⟩, hide (fun x hx => by cases hx), hide rfl⟩
  case round =>
    obtain ⟨k, l, sk, fk, hk, rfl, hlk, HSk, HQ, HG, HE⟩ := hrel
    by_cases hlt : k < n
    · have hkn : (k : Int) < n := by omega
      have c1 := (unhide HQ).r.c1
      cases fk with
      | true =>
        obtain ⟨ao, co, go, hvo, _⟩ := (unhide HQ).o.shape
        have HZ : Hid (pentsN n s1 f1 = (l.map (·.1), sk, true)) := hide (by rw [unhide HE, show n - k = (n - (k + 1)) + 1 by omega]; simp [pentsN])
        go_wp2_with fail
        go_ret
        refine ⟨ao, co, l, ?_, ?_, ?_, unhide HG⟩
        · rw [unhide HZ, List.length_map]; exact congrArg Ending.returned hvo
        · rw [unhide HZ]
        · rw [unhide HZ, List.length_map, ← hvo]; exact unhide HQ
      | false =>
        have HI := hide (rentry_any (unhide HQ).r (unhide HSk))
        have hpf := pent_facts sk false
        have HSn : Hid ((pent sk false).2.1.size ≤ 150000000000000) := hide (Nat.le_trans hpf.2.2 (unhide HSk))
        have HE2 : Hid (pentsN n s1 f1 = ((l.map (·.1) ++ [(pent sk false).1]) ++ (pentsN (n - (k + 1)) (pent sk false).2.1 (pent sk false).2.2).1, (pentsN (n - (k + 1)) (pent sk false).2.1 (pent sk false).2.2).2)) := hide (by
          rw [unhide HE, show n - k = (n - (k + 1)) + 1 by omega]
          simp [pentsN])
        generalize pent sk false = r at *
        obtain ⟨x, s2, f2⟩ := r
        simp only at HI HE2 HSn
        have HLk := hide hlk
        clear hpf hlk
        obtain ⟨ao, co, go, hvo, _⟩ := (unhide HQ).o.shape
        rw [unhide HLk] at hvo
        subst hvo
        go_wp2_with (first
          | (go_at_call 113; refine (unhide HI).mono ?_; rintro e w2 ⟨ga, rfl, ho2, hr2, hc2⟩; have HX := hide (ho2.mono (unhide HQ).ch.size); replace HG := hide ((unhide HG).off hc2 (unhide HQ).lt); replace HQ := hide ((unhide HQ).read hr2 hc2); clear ho2 hr2 hc2)
          | (refine el_one EG (encG (x, ga)).toArray rfl (by decide) (.tmp 17) rfl rfl rfl ?_)
          | (at_builtin; refine app_el (E := EG) (L := l) [(x, ga)] ((unhide HQ).o.bel ((Bel.refl w2).alloc _)) (Nat.le_trans (unhide HQ).ch.size ((Bel.refl w2).alloc _).size) (some ⟨w2.heap.size, 0, none⟩) 1 1 rfl (sl_one (E := EG) w2 (x, ga)) (by have := unhide HLk; have := unhide HNM; simp; omega) rfl (.tmp 15) (.tmp 18) 24 rfl rfl rfl rfl ?_; intro v5 w5 ho5 hg5; replace HG := hide ((Gn.snoc (x := (x, ga)) (unhide HG) (unhide HX)).app (unhide HQ).o (by decide) hg5); replace HQ := hide ((unhide HQ).app hg5 ho5); clear ho5 hg5))
        go_roundw
        case rel => exact ⟨k + 1, l ++ [(x, ga)], s2, f2, by omega, by go_num, by simp [unhide HLk], HSn, HQ, HG, hide (by rw [unhide HE2]; simp)⟩
        case measure => simp [intOf]; omega
    · obtain rfl : k = n := by omega
      obtain ⟨ao, co, go, hvo, _⟩ := (unhide HQ).o.shape
      have HZ : Hid (pentsN k s1 f1 = (l.map (·.1), sk, fk)) := hide (by rw [unhide HE, Nat.sub_self]; simp [pentsN])
      go_wp2_with fail
      go_ret
      refine ⟨ao, co, l, ?_, ?_, ?_, unhide HG⟩
      · rw [unhide HZ, List.length_map]; exact congrArg Ending.returned hvo
      · rw [unhide HZ]
      · rw [unhide HZ, List.length_map, ← hvo]; exact unhide HQ
end Go.Proofs.YtgofdkheffoilaaGreat
