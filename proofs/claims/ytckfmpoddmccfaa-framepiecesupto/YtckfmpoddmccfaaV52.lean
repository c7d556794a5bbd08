import Derived.Test.YtckfmpoddmccfaaV48
namespace Go.Proofs.Ytckfmpoddmccfaa
open Go.RowKit
set_option linter.unusedVariables false
set_option linter.unusedSimpArgs false
set_option maxRecDepth 100000
theorem cutOf_sub {X : Type} (f : X → List Nat) (z : X) (hz : f z = []) (ov : Nat) (l : List Nat) (D : X × Nat × Nat) (hD : (f D.1).Sublist l) : (f (cutOf z ov l D).1).Sublist l := by
  rcases (cutOf_cases z ov l D).1 with e | e
  · rw [e, hz]; exact List.nil_sublist _
  · rw [e]; exact hD
theorem part_sub (l : List Nat) (a k : Nat) : ((l.drop a).take k).Sublist l := (List.take_sublist _ _).trans (List.drop_sublist _ _)
theorem cgD_sub (kd : Int) (m : Nat) (z x : Bool) (a : Int) (ov : Nat) (l : List Nat) : ((cgD kd m z x a ov l).1.2.2.2.2.2.2.2.2.2).Sublist l := by
  unfold cgD
  split
  · exact List.nil_sublist _
  split
  · exact List.nil_sublist _
  split
  · have e1 : (optC m ov l).1 = (cutOf (0, 0, false, []) ov l (optF m l)).1 := by unfold optC; simp only; split <;> rfl
    show ((optC m ov l).1.2.2.2).Sublist l
    rw [e1]
    refine cutOf_sub (fun y : Nat × Nat × Bool × List Nat => y.2.2.2) (0, 0, false, []) rfl ov l (optF m l) ?_
    show ((optD m l).1.2.2.2).Sublist l
    unfold optD
    repeat' split
    all_goals first | exact List.nil_sublist _ | exact part_sub _ _ _
  split
  · refine cutOf_sub (fun y : Nat × Nat × List Nat => y.2.2) (0, 0, []) rfl ov l (repD m l) ?_
    unfold repD
    repeat' split
    all_goals first | exact List.nil_sublist _ | exact part_sub _ _ _
  split
  · exact List.nil_sublist _
  split
  · refine cutOf_sub (fun y : Nat × Nat × Nat × Nat × Nat × List Nat => y.2.2.2.2.2) (0, 0, 0, 0, 0, []) rfl ov l (reqD m x l) ?_
    unfold reqD
    repeat' split
    all_goals first | exact List.nil_sublist _ | exact part_sub _ _ _
  split
  · refine cutOf_sub (fun y : Bool × Nat × Nat × Nat × Nat × Nat × Nat × List Nat => y.2.2.2.2.2.2.2) ansZ rfl ov l (ansD m x l) ?_
    have hc : ((chkD m x l).1.2.2.2.2).Sublist l := by
      unfold chkD
      repeat' split
      all_goals first | exact List.nil_sublist _ | exact part_sub _ _ _
    unfold ansD
    repeat' split
    all_goals first | exact List.nil_sublist _ | exact hc
  split
  · refine cutOf_sub (fun y : List Nat => y) [] rfl ov l (datD a l) ?_
    unfold datD
    repeat' split
    all_goals first | exact List.nil_sublist _ | exact List.take_sublist _ _
  exact List.nil_sublist _
end Go.Proofs.Ytckfmpoddmccfaa
