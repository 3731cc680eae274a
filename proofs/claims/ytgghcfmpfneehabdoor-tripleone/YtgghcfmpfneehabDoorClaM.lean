/- What a write claims by a schema, plain; when two writes claim one thing. -/
import Derived.Test.YtgghcfmpfneehabDoorValR
import Derived.Test.YtgghcfmpfneehabDoorTriC
namespace Go.Proofs.YtgghcfmpfneehabDoor
open Go.RowKit
/-- What a write claims by a schema that is a list or not. -/
def clmS (ls : Bool) (u : Nat) (q : ByteArray) (k : Int) (b : Bool) (n : Int) (s : ByteArray) (v : Int) : List UInt8 := key q.data.toList ++ num u ++ if ls then byt k b n s v else []
theorem num_front {u u' : Nat} (hu : u < 2 ^ 64) (hu' : u' < 2 ^ 64) {x x' : List UInt8} (h : num u ++ x = num u' ++ x') : u = u' ∧ x = x' := by
  have h1 := rNum_back u hu ⟨x.toArray⟩
  have h2 := rNum_back u' hu' ⟨x'.toArray⟩
  have e : (⟨(num u).toArray⟩ : ByteArray) ++ ⟨x.toArray⟩ = ⟨(num u').toArray⟩ ++ ⟨x'.toArray⟩ := by
    apply ba_ext
    simpa [ba_app] using h
  rw [e, h2] at h1
  simp only [Prod.mk.injEq] at h1
  refine ⟨h1.1.symm, ?_⟩
  have := congrArg (fun s : ByteArray => s.data.toList) h1.2.1
  simpa using this.symm
theorem byt_one {k : Int} {b : Bool} {n : Int} {s : ByteArray} {v : Int} {k' : Int} {b' : Bool} {n' : Int} {s' : ByteArray} {v' : Int} (h : mayV k b n s v) (hr : inR n v) (h' : mayV k' b' n' s' v') (hr' : inR n' v') (e : byt k b n s v = byt k' b' n' s' v') : k = k' ∧ b = b' ∧ n = n' ∧ s = s' ∧ v = v' := by
  have h1 := rVal_back h hr ⟨#[]⟩
  have h2 := rVal_back h' hr' ⟨#[]⟩
  rw [e, h2] at h1
  simp only [Prod.mk.injEq] at h1
  exact ⟨h1.1.1.symm, h1.1.2.1.symm, h1.1.2.2.1.symm, h1.1.2.2.2.1.symm, h1.1.2.2.2.2.symm⟩
theorem clmS_one (ls : Bool) (q : ByteArray) {u u' : Nat} (hu : u < 2 ^ 64) (hu' : u' < 2 ^ 64) {k : Int} {b : Bool} {n : Int} {s : ByteArray} {v : Int} {k' : Int} {b' : Bool} {n' : Int} {s' : ByteArray} {v' : Int} (h : mayV k b n s v) (hr : inR n v) (h' : mayV k' b' n' s' v') (hr' : inR n' v') :
    clmS ls u q k b n s v = clmS ls u' q k' b' n' s' v' ↔ (u = u' ∧ (ls = true → k = k' ∧ b = b' ∧ n = n' ∧ s = s' ∧ v = v')) := by
  unfold clmS
  rw [List.append_assoc, List.append_assoc]
  constructor
  · intro e
    obtain ⟨e1, e2⟩ := num_front hu hu' (List.append_cancel_left e)
    refine ⟨e1, fun hl => ?_⟩
    rw [if_pos hl, if_pos hl] at e2
    exact byt_one h hr h' hr' e2
  · rintro ⟨rfl, e⟩
    cases ls
    · rfl
    · obtain ⟨rfl, rfl, rfl, rfl, rfl⟩ := e rfl
      rfl
end Go.Proofs.YtgghcfmpfneehabDoor
