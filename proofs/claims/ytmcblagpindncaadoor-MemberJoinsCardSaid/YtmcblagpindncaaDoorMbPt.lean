/- member.Parts, member.Folder. -/
import Derived.Test.YtmcblagpindncaaDoorMbJp
namespace Go.Proofs.YtmcblagpindncaaDoor
open Go.RowKit

set_option maxHeartbeats 1000000 in
theorem splitT_any (s : ByteArray) (w : World) (hs : s.size ≤ 1000) :
    Calls Tryd.prog 22 #[.string s, .string ⟨#[47]⟩] w fun e w' => ∃ A c, e = .returned (.slice A (partsS s.data.toList).length c) ∧ w'.ownsRow w.heap.size 9 1 (.slice A (partsS s.data.toList).length c) (partsS s.data.toList).length (textCells (partsS s.data.toList)) ∧ Below w.heap.size w w' := by
  have HG := Lib.hid (genSplitT_any s w hs)
  go_enter Tryd.func22, Tryd.ntmps22
  go_wp2_with (go_at_call 33; refine HG.out.mono ?_; rintro e w1 ⟨A, c, rfl, ho, hb⟩; have HO := Lib.hid ho; have HB := Lib.hid hb; clear ho hb)
  go_ret
  exact ⟨A, c, rfl, HO.out, HB.out⟩
/-- The parts that are told. -/
def partsT (s : ByteArray) : List (List UInt8) := if rightB s.data.toList then partsS s.data.toList else []
set_option maxHeartbeats 1000000 in
theorem partsM_any (s : ByteArray) (w : World) (hs : s.size ≤ 1000) :
    Calls Tryd.prog 9 #[.string s] w fun e w' => ∃ A c, e = .returned (.slice A (partsT s).length c) ∧ w'.ownsRow w.heap.size 9 1 (.slice A (partsT s).length c) (partsT s).length (textCells (partsT s)) ∧ Below w.heap.size w w' := by
  have HR := Lib.hid (rightM_any s w (by unfold maxLen; omega))
  have HG := Lib.hid (fun W => splitT_any s W hs)
  cases hr : rightB s.data.toList with
  | false =>
    have HE : Hid (partsT s = []) := by show _ = _; unfold partsT; rw [hr]; rfl
    rw [hr] at HR
    rw [HE.out]
    clear hr
    go_enter Tryd.func9, Tryd.ntmps9
    go_wp2_with (go_at_call 11; refine HR.out.mono ?_; rintro e w1 ⟨rfl, hb⟩; have HB := Lib.hid hb; clear hb)
    go_ret
    exact ⟨none, 0, rfl, World.ownsRow_nil _ _ _ _, HB.out⟩
  | true =>
    have HE : Hid (partsT s = partsS s.data.toList) := by show _ = _; unfold partsT; rw [hr]; rfl
    rw [hr] at HR
    rw [HE.out]
    clear hr
    go_enter Tryd.func9, Tryd.ntmps9
    go_wp2_with (first
      | (go_at_call 11; refine HR.out.mono ?_; rintro e w1 ⟨rfl, hb⟩; have HB := Lib.hid hb; clear hb)
      | (go_at_call 22; refine (HG.out _).mono ?_; rintro e w2 ⟨A, c, rfl, ho, hb⟩; have HO := Lib.hid ho; have HB2 := Lib.hid (HB.out.trans (hb.mono HB.out.size)); clear ho hb))
    go_ret
    exact ⟨A, c, rfl, ownT_low HO.out HB.out.size, HB2.out⟩
/-- The folder that is told. -/
def foldT (s : ByteArray) : List UInt8 := if rightB s.data.toList then folderL s.data.toList else []
set_option maxHeartbeats 1000000 in
theorem folderM_any (s : ByteArray) (w : World) (hs : s.size ≤ 1000) :
    Calls Tryd.prog 10 #[.string s] w fun e w' => e = .returned (.tuple #[.string ⟨(foldT s).toArray⟩, .bool (rightB s.data.toList)]) ∧ Below w.heap.size w w' := by
  have HR := Lib.hid (rightM_any s w (by unfold maxLen; omega))
  have HI := Lib.hid (fun W => Tryd.strings_LastIndex_one s ⟨#[47]⟩ rfl (by omega) W)
  have h47 : Lib.lastIndexByte s ((((⟨#[47]⟩ : ByteArray)[0]'(by decide)).toNat : Nat) : Int) = Lib.lastIndexByte s 47 := rfl
  cases hr : rightB s.data.toList with
  | false =>
    have HE : Hid (foldT s = []) := by show _ = _; unfold foldT; rw [hr]; rfl
    rw [hr] at HR
    rw [HE.out]
    clear hr
    go_enter Tryd.func10, Tryd.ntmps10
    go_wp2_with (go_at_call 11; refine HR.out.mono ?_; rintro e w1 ⟨rfl, hb⟩; have HB := Lib.hid hb; clear hb)
    go_ret2
    exact ⟨rfl, HB.out⟩
  | true =>
    have HE : Hid (foldT s = folderL s.data.toList) := by show _ = _; unfold foldT; rw [hr]; rfl
    rw [hr] at HR
    rw [HE.out]
    have HIX : Hid (∀ W, Calls Tryd.prog 23 #[.string s, .string ⟨#[47]⟩] W fun e w' => e = .returned (.int .i64 (Lib.lastIndexByte s 47)) ∧ W = w') := fun W => (HI.out W).mono fun _ _ h => ⟨h.1, h.2.symm⟩
    clear hr h47 HI
    rcases last_index s with ⟨h1, h2⟩ | ⟨i, h1, h2, h3⟩
    · rw [h1] at HIX
      have HF := Lib.hid h2
      clear h1 h2
      go_enter Tryd.func10, Tryd.ntmps10
      go_wp2_with (first
        | (go_at_call 11; refine HR.out.mono ?_; rintro e w1 ⟨rfl, hb⟩; have HB := Lib.hid hb; clear hb)
        | (go_at_call 23; refine (HIX.out _).mono ?_; rintro e w2 ⟨rfl, rfl⟩))
      go_ret2
      exact ⟨by rw [HF.out]; show Ending.returned (.tuple #[.string (s.extract 0 0), .bool true]) = _; rw [extract_take]; rfl, HB.out⟩
    · rw [h1] at HIX
      have HF := Lib.hid h3
      have HX := Lib.hid (extract_take s i)
      have hi0 : ¬ ((i : Int) < 0) := by omega
      have hm1 : max (i : Int) 0 = (i : Int) := by omega
      have hm2 : (if (i : Int) < 0 then (0 : Int) else (i : Int)) = (i : Int) := if_neg hi0
      have hm3 : (if (0 : Int) < (i : Int) then (i : Int) else 0) = (i : Int) := by split <;> omega
      have hm4 : (if (0 : Nat) < i then (i : Int) else 0) = (i : Int) := by split <;> omega
      have hil : i ≤ s.size := by omega
      clear h1 h2 h3
      go_enter Tryd.func10, Tryd.ntmps10
      go_wp2_with (first
        | (go_at_call 11; refine HR.out.mono ?_; rintro e w1 ⟨rfl, hb⟩; have HB := Lib.hid hb; clear hb)
        | (go_at_call 23; refine (HIX.out _).mono ?_; rintro e w2 ⟨rfl, rfl⟩))
      go_ret2
      exact ⟨by rw [HF.out, ← HX.out]; rfl, HB.out⟩
end Go.Proofs.YtmcblagpindncaaDoor
