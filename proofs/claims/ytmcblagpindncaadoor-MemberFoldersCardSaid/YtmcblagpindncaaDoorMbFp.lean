/- The first parts of what a folder has, plainly. -/
import Derived.Test.YtmcblagpindncaaDoorMbF
namespace Go.Proofs.YtmcblagpindncaaDoor

def restL (f : ByteArray) (p : List UInt8) : List UInt8 := if f.size = 0 then p else p.drop (f.size + 1)
def childL (f : ByteArray) (p : List UInt8) : List UInt8 := cutH (restL f p)
theorem right_no47 {l : List UInt8} (h : rightB (47 :: l) = true) : False := by
  unfold rightB at h
  simp only [Bool.and_eq_true] at h
  have := h.2
  simp [partsS, partM] at this
theorem inT_pre {f : ByteArray} {p : List UInt8} (h : inT f p = true) (hf : ¬ f.size = 0) : (f.data.toList ++ [47]).isPrefixOf p = true := by
  unfold inT inF at h
  simp only [Bool.and_eq_true, Bool.or_eq_true, decide_eq_true_eq] at h
  rcases h.2 with h2 | h2
  · exact absurd h2 hf
  · exact h2.2
theorem inT_right {f : ByteArray} {p : List UInt8} (h : inT f p = true) : rightB p = true := by
  unfold inT inF at h
  simp only [Bool.and_eq_true] at h
  exact h.1
theorem pre_len {f : ByteArray} {p : List UInt8} (h : inT f p = true) (hf : ¬ f.size = 0) : f.size + 1 ≤ p.length := by
  have h1 := List.isPrefixOf_iff_prefix.1 (inT_pre h hf)
  have h2 := h1.length_le
  rw [List.length_append, List.length_singleton] at h2
  exact h2
theorem childT_L {f : ByteArray} {p : List UInt8} (h : inT f p = true) : childT f p = childL f p := by
  unfold childT childL restL Lib.trimPrefix Lib.hasPrefix
  by_cases hf : f.size = 0
  · have h0 : f.data.toList = [] := List.eq_nil_of_length_eq_zero hf
    rw [if_pos hf, h0, List.nil_append]
    cases p with
    | nil => rfl
    | cons x l =>
      by_cases hx : x = 47
      · subst hx; exact (right_no47 (inT_right h)).elim
      · rw [if_neg (by simp [List.isPrefixOf]; exact fun e => hx e.symm)]
  · rw [if_neg hf, if_pos (inT_pre h hf), List.length_append, List.length_singleton]
    rfl
theorem sortB_map (g : List UInt8 → List UInt8) (a : List (List UInt8)) : sortB ((sortB a).map g) = sortB (a.map g) := by
  refine sortB_of (sortB_ris _) (fun x => ?_)
  rw [sortB_mem, List.mem_map, List.mem_map]
  constructor
  · rintro ⟨y, hy, e⟩; exact ⟨y, sortB_mem.1 hy, e⟩
  · rintro ⟨y, hy, e⟩; exact ⟨y, sortB_mem.2 hy, e⟩
theorem children_L (f : ByteArray) (ss : List (List UInt8)) : sortB ((sortB (inS f ss)).map (childT f)) = sortB ((inS f ss).map (childL f)) := by
  rw [sortB_map]
  congr 1
  refine List.map_congr_left (fun p hp => ?_)
  exact childT_L (List.mem_filter.1 hp).2
end Go.Proofs.YtmcblagpindncaaDoor
