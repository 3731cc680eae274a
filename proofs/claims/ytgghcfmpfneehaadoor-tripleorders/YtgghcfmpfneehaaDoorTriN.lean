/- How triples stand to one another, by the document. -/
import Derived.Test.YtgghcfmpfneehaaDoorTriM
import Derived.Test.YtgghcfmpfneehaaDoorDocC
namespace Go.Proofs.YtgghcfmpfneehaaDoor
open Go.RowKit
set_option maxHeartbeats 1000000 in
set_option maxRecDepth 100000 in
theorem refTcmp (u : Int) (p : ByteArray) (k : Int) (b : Bool) (n : Int) (s : ByteArray) (v : Int) (u' : Int) (p' : ByteArray) (k' : Int) (b' : Bool) (n' : Int) (s' : ByteArray) (v' : Int) (h : eT u p k b n s v = 0) (h' : eT u' p' k' b' n' s' v' = 0) (w : World) :
    Calls Tryd.prog 16 #[et u p k b n s v, et u' p' k' b' n' s' v'] w fun e w' => e = .returned (.int .i64 (tord u p k b n s v u' p' k' b' n' s' v')) ∧ Bel w w' := by
  by_cases hp : p.toList = p'.toList
  · obtain rfl := bytes_inj hp
    have e1 : tord u p k b n s v u' p k' b' n' s' v' = orL [cmpI u u', ord k b n s v k' b' n' s' v'] := by unfold tord; rw [cmpB_self, or_zero]
    by_cases hu : u = u'
    · subst hu
      have e2 : orL [cmpI u u, ord k b n s v k' b' n' s' v'] = ord k b n s v k' b' n' s' v' := by
        rw [show cmpI u u = 0 by unfold cmpI; simp, or_zero]
        by_cases hz : ord k b n s v k' b' n' s' v' = 0
        · rw [hz]; rfl
        · rw [or_first hz]
      rw [e1, e2]
      have CV := hide (fun W => dcmp_any ⟨k, b, n, s, v⟩ ⟨k', b', n', s', v'⟩ (eT_zero h).2.2 (eT_zero h').2.2 W)
      unfold enc5 vo at CV
      generalize ord k b n s v k' b' n' s' v' = X at CV ⊢
      clear h h' e1 e2 hp
      unfold et
      go_enter Tryd.func16, Tryd.ntmps16
      go_wp2_with (go_at_call 41; refine (CV.out _).mono ?_; rintro e w' ⟨rfl, hb⟩)
      go_ret
      exact ⟨rfl, (((Bel.refl _).alloc _).alloc _).trans hb⟩
    · have hn : (u == u') = false := ne_beq hu
      have hn2 : (u != u') = true := by unfold bne; rw [hn]; rfl
      clear h h' hp
      by_cases hl : u < u'
      · rw [e1, cmpI_m1 hl, or_first (by decide)]
        clear hu e1
        unfold et
        go_enter Tryd.func16, Tryd.ntmps16
        go_wp2_with fail
        go_ret
        exact ⟨rfl, ((Bel.refl _).alloc _).alloc _⟩
      · have hg : u' < u := by omega
        rw [e1, cmpI_1 hg, or_first (by decide)]
        clear hu e1
        unfold et
        go_enter Tryd.func16, Tryd.ntmps16
        go_wp2_with fail
        go_ret
        exact ⟨rfl, ((Bel.refl _).alloc _).alloc _⟩
  · have h2 : Lib.compareBytes p.data.toList p'.data.toList ≠ 0 := fun e => hp (by rw [ByteArray.toList_eq, ByteArray.toList_eq]; exact (cmpB_eq _ _).1 e)
    have e1 : tord u p k b n s v u' p' k' b' n' s' v' = Lib.compareBytes p.data.toList p'.data.toList := by unfold tord; rw [or_first h2]
    have h3 := cmpB_lt p.data.toList p'.data.toList
    have hn : (p.toList == p'.toList) = false := by simpa using hp
    rw [e1]
    clear h h' e1
    rcases cmpB_sgn p.data.toList p'.data.toList with h4 | h4 | h4
    · rw [h4] at h3 ⊢
      have h5 : Op.bytesLess p.toList p'.toList = true := by rw [ByteArray.toList_eq, ByteArray.toList_eq, ← h3]; rfl
      clear h2 h3 h4 hp
      unfold et
      go_enter Tryd.func16, Tryd.ntmps16
      go_wp2_with fail
      go_ret
      exact ⟨rfl, ((Bel.refl _).alloc _).alloc _⟩
    · exact absurd h4 h2
    · rw [h4] at h3 ⊢
      have h5 : Op.bytesLess p.toList p'.toList = false := by rw [ByteArray.toList_eq, ByteArray.toList_eq, ← h3]; rfl
      clear h2 h3 h4 hp
      unfold et
      go_enter Tryd.func16, Tryd.ntmps16
      go_wp2_with fail
      go_ret
      exact ⟨rfl, ((Bel.refl _).alloc _).alloc _⟩
end Go.Proofs.YtgghcfmpfneehaaDoor
