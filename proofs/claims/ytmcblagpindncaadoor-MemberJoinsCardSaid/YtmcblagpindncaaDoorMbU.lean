/- member.Under: the names that a folder has. -/
import Derived.Test.YtmcblagpindncaaDoorMbS
import Derived.Test.YtmcblagpindncaaDoorMbIn
namespace Go.Proofs.YtmcblagpindncaaDoor
open Go.RowKit

/-- Is a text in a folder? -/
abbrev inT (f : ByteArray) (p : List UInt8) : Bool := inF f ⟨p.toArray⟩
def inS (f : ByteArray) (ss : List (List UInt8)) : List (List UInt8) := ss.filter (inT f)
theorem inS_snoc (f : ByteArray) (pre : List (List UInt8)) (x : List UInt8) : inS f (pre ++ [x]) = if inT f x then inS f pre ++ [x] else inS f pre := by
  unfold inS
  rw [List.filter_append]
  cases h : inT f x with
  | true => simp [h]
  | false => simp [h]
theorem takeT_snoc {l : List (List UInt8)} {k : Nat} {x : List UInt8} (h : l[k]? = some x) : l.take (k + 1) = l.take k ++ [x] := by rw [List.take_add_one, h]; rfl
theorem ownT_low {w : World} {b b' : Nat} {e : TypeId} {k n : Nat} {v : Value} {xs : List Value} (h : w.ownsRow b e k v n xs) (hb : b' ≤ b) : w.ownsRow b' e k v n xs := ⟨h.1, by
  rcases h.2 with h | ⟨g, cap, cur, h1, h2, h3⟩
  · exact .inl h
  · exact .inr ⟨g, cap, cur, h1, Nat.le_trans hb h2, h3⟩⟩
theorem textCells_own {w : World} {base : Nat} {e : TypeId} {A : Option Addr} {n c : Nat} {os : List (List UInt8)} (h : w.ownsRow base e 1 (.slice A n c) n (textCells os)) : Cells w w.heap.size A (textCells os) := fun hp => by
  rcases ownK_form h with ⟨he, h0⟩ | ⟨g', c', he⟩
  · have := h.1; rw [h0] at this; omega
  · injection he with hA _ hc
    subst hA hc
    obtain ⟨cur, hg, htk, _, _, _, _, hxl⟩ := ownK_row h
    refine ⟨g', 0, rfl, (Array.getElem?_eq_some_iff.1 hg).1, fun j u hj => ?_⟩
    have := seg_cells hg 0 (textCells os) (by rw [List.drop_zero, hxl]; exact htk) j u hj
    rw [Addr.add_lit] at this
    exact this
set_option maxRecDepth 100000 in
set_option maxHeartbeats 1000000 in
theorem underM_any (A : Option Addr) (l c : Nat) (ss : List (List UInt8)) (f : ByteArray) (B : Nat) (w : World) (hl : ss.length = l) (hm : l ≤ 1000000) (hb : Cells w B A (textCells ss)) (hB : B ≤ w.heap.size) (hf : f.size ≤ 1000) (hn : ∀ p ∈ ss, p.length ≤ maxLen) :
    Calls Tryd.prog 17 #[.slice A l c, .string f] w fun e w' => ∃ A' c', e = .returned (.slice A' (sortB (inS f ss)).length c') ∧ w'.ownsRow w.heap.size 9 1 (.slice A' (sortB (inS f ss)).length c') (sortB (inS f ss)).length (textCells (sortB (inS f ss))) ∧ Below w.heap.size w w' := by
  have HC := Lib.hid hb
  have HL := Lib.hid hl
  have HB := Lib.hid hB
  have HN := Lib.hid hn
  have HI := Lib.hid (fun x W (hx : ByteArray.size x ≤ maxLen) => memIn_any f x W hf hx)
  clear hb hl hB hn hf
  go_enter Tryd.func17, Tryd.ntmps17
  go_wp2
  go_loopg [5, 10] l (fun gk v i wr => ∃ k : Nat, ∃ os : List (List UInt8), k + gk = l ∧ i = .int .i64 k ∧ os = inS f (ss.take k) ∧ wr.ownsRow w.heap.size 9 1 v os.length (textCells os) ∧ Below w.heap.size w wr)
  case atStart => exact ⟨0, [], by omega, rfl, rfl, World.ownsRow_nil _ _ _ _, Below.refl _ _⟩
  case round =>
    obtain ⟨k, os, hk, rfl, hos, hown, hbel⟩ := hrel
    have HOWN := Lib.hid hown
    have HBL := Lib.hid hbel
    have HOS := Lib.hid hos
    have HOL : Hid (os.length ≤ k) := by
      show _ ≤ _
      rw [HOS.out]
      exact Nat.le_trans (List.length_filter_le _ _) (by rw [List.length_take]; omega)
    clear hown hbel hos
    obtain ⟨Ak, ck, rfl⟩ := own_form' HOWN.out
    by_cases h : k < l
    · obtain ⟨x, hx⟩ : ∃ x, ss[k]? = some x := ⟨_, List.getElem?_eq_getElem (by have := HL.out; omega)⟩
      obtain ⟨b, o, rfl, hbB, hc⟩ := HC.out (by rw [text_len]; have := HL.out; omega)
      have c0 : wr.cell? ⟨b, o + k, none⟩ = some (.string ⟨x.toArray⟩) := (HBL.out.cell (p := ⟨b, o + k, none⟩) (by show b < _; have := HB.out; omega)).trans (hc k _ (textCells_get hx))
      have hw1 : IntKind.i64.wrap ((k : Int) + 1) = (k : Int) + 1 := IntWalk.i64_in _ (by omega)
      have hki : (k : Int) < (l : Int) := by omega
      have HTK := Lib.hid (takeT_snoc hx)
      have HIX := Lib.hid (fun W => HI.out ⟨x.toArray⟩ W (by rw [show (⟨x.toArray⟩ : ByteArray).size = x.length from by show x.toArray.size = _; simp]; exact HN.out x (List.mem_of_getElem? hx)))
      obtain ⟨q, hq⟩ : ∃ q, inF f ⟨x.toArray⟩ = q := ⟨_, rfl⟩
      rw [hq] at HIX
      have HSN := Lib.hid (inS_snoc f (ss.take k) x)
      rw [show inT f x = q from hq] at HSN
      clear hc hx hq
      cases q with
      | false =>
        rw [if_neg (by decide)] at HSN
        go_wp2_with (go_at_call 16; refine (HIX.out _).mono ?_; rintro e w1 ⟨rfl, hbel⟩; have HB3 := Lib.hid hbel; clear hbel)
        go_roundg (gk - 1)
        case measure => omega
        case rel =>
          have hb3 := HB3.out
          exact ⟨k + 1, os, by omega, by go_num, by rw [HTK.out, HSN.out]; exact HOS.out, own_keep HOWN.out (Mod.of_below hb3) (fun _ _ hh => hh), HBL.out.trans (hb3.mono HBL.out.size)⟩
      | true =>
        rw [if_pos rfl] at HSN
        have hz0 := HBL.out.size
        have hol := HOL.out
        go_wp2_with (first
          | (go_at_call 16; refine (HIX.out _).mono ?_; rintro e w1 ⟨rfl, hbel⟩; have HB3 := Lib.hid hbel; have HO1 := Lib.hid (own_keep HOWN.out (Mod.of_below hbel) (fun _ _ hh => hh)); have hz1 := hbel.size; clear hbel)
          | (at_builtin; go_must (skip; refine wpList_app1 _ textElem rfl (.tmp 17) (.tmp 19) rfl w.heap.size (.slice Ak os.length ck) os.length _ rfl HO1.out #[.string ⟨x.toArray⟩] rfl rfl (by simp [Value.oneCell']) (by unfold maxLen; omega) (by omega) (by omega) ?_; intro A3 c3 w3 hA; have HA := Lib.hid hA; clear hA)))
        go_roundg (gk - 1)
        case measure => omega
        case rel =>
          have ho := HA.out.own
          have hb3 := HB3.out
          have hb4 := HBL.out.trans (hb3.mono HBL.out.size)
          refine ⟨k + 1, os ++ [x], by omega, by go_num, by rw [HTK.out, HSN.out, HOS.out], ?_, HA.out.below hb4 hb4.size (fun q hq => (HO1.out.lt q hq).1)⟩
          rw [← textCells_snoc, List.length_append]
          exact ho
    · obtain rfl : k = l := by omega
      have HK : Hid (inS f ss = os) := by show _ = _; rw [HOS.out, List.take_of_length_le (by have := HL.out; omega)]
      have HS := Lib.hid (sortM_any Ak os.length ck os wr.heap.size wr rfl (by have := HOL.out; omega) (textCells_own HOWN.out) (Nat.le_refl _))
      go_wp2_with (go_at_call 20; refine HS.out.mono ?_; rintro e w1 ⟨A', c', rfl, ho, hbel⟩; have HO := Lib.hid ho; have HB5 := Lib.hid hbel; clear ho hbel)
      go_ret
      rw [HK.out]
      exact ⟨A', c', rfl, ownT_low HO.out HBL.out.size, HBL.out.trans (HB5.out.mono HBL.out.size)⟩
end Go.Proofs.YtmcblagpindncaaDoor
