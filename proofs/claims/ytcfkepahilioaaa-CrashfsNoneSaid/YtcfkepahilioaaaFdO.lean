/- Layer 6 (a directory inside a file system): Create, Rename, Remove. -/
import Derived.Test.YtcfkepahilioaaaFdC
namespace Go.Proofs.Ytcfkepahilioaaa
open Go.RowKit Go.Maps
variable {X : FsX}

/-- May a name be? -/
def rightN (s : ByteArray) : Bool := decide (0 < s.size) && decide (s.size ≤ 100)
theorem right5_any (s : ByteArray) (w : World) : Calls Try.prog 59 #[.string s] w fun e w' => e = .returned (.bool (rightN s)) ∧ w = w' := by
  unfold rightN
  by_cases h : 0 < s.size
  · have h1 : (0 : Int) < (s.size : Int) := by omega
    by_cases h2 : s.size ≤ 100
    · have h3 : (s.size : Int) ≤ 100 := by omega
      rw [decide_eq_true h, decide_eq_true h2]
      go_enter Try.func59, Try.ntmps59
      go_wp2
      go_ret
      exact ⟨rfl, rfl⟩
    · have h3 : ¬ (s.size : Int) ≤ 100 := by omega
      rw [decide_eq_true h, decide_eq_false h2]
      go_enter Try.func59, Try.ntmps59
      go_wp2
      go_ret
      exact ⟨rfl, rfl⟩
  · have h1 : ¬ (0 : Int) < (s.size : Int) := by omega
    rw [decide_eq_false h]
    go_enter Try.func59, Try.ntmps59
    go_wp2
    go_ret
    exact ⟨rfl, rfl⟩
theorem StepF.refl {F : Nat → Prop} (w : World) : StepF F F w w := ⟨Mod.refl _ _, fun _ h => .inl h⟩
def crE (now : List Nt) (s : ByteArray) : Int := if rightN s then (if hasK Nt.nm now s then 16 else if 16 ≤ now.length then 14 else 0) else 6
def rnE (now : List Nt) (a b : ByteArray) : Int := if rightN b then (if hasK Nt.nm now a then 0 else 7) else 6
def rmE (now : List Nt) (a : ByteArray) : Int := if hasK Nt.nm now a then 0 else 7
/-- What a change leaves, where nothing is refused. -/
def chN (e : Int) (now : List Nt) (c : Ch) : List Nt := if e = 0 then step1 now c else now
def chW (e : Int) (ws : List Ch) (c : Ch) : List Ch := if e = 0 then ws ++ [c] else ws
theorem rightN_size {s : ByteArray} (h : rightN s = true) : 0 < s.size ∧ s.size ≤ 100 := by
  unfold rightN at h
  rw [Bool.and_eq_true, decide_eq_true_eq, decide_eq_true_eq] at h
  exact h
theorem wf0 : (Lit.int .i64 0).wf = true := by decide
set_option maxRecDepth 100000 in
set_option maxHeartbeats 1000000 in
theorem create5_any (d : Nat) (F : Nat → Prop) (now safe : List Nt) (ws : List Ch) (s : ByteArray) (i : Int) (hi : (Lit.int .i64 i).wf = true) (w : World) (h : DirS w d X F now safe ws) (hr : Ris Nt.nm now) (hws : ws.length ≤ 1000) (hnow : now.length ≤ 100000) (hs : s.size ≤ 1000) :
    Calls Try.prog 31 #[.pointer (some ⟨d, 1, none⟩), .string s, .int .i64 i] w fun e w' => e = .returned (.int .i64 (crE now s)) ∧ ∃ F', DirS w' d X F' (chN (crE now s) now ⟨noN, s, i⟩) safe (chW (crE now s) ws ⟨noN, s, i⟩) ∧ StepF F F' w w' := by
  have h0 := Lib.hid h
  have HRT := Lib.hid (right5_any s w)
  have HH := Lib.hid (has_dirDs now s)
  obtain ⟨bn, bs, Aw, cw, hD⟩ := h
  obtain ⟨c0, c1, c2, f0, f1, f2⟩ := hD.cells
  cases hq : rightN s with
  | false =>
    have HE : Hid (crE now s = 6) := by show _ = _; unfold crE; rw [hq]; rfl
    rw [hq] at HRT
    clear hD hq
    rw [HE.out]
    go_enter Try.func31, Try.ntmps31
    go_wp2_with (go_at_call 59; refine HRT.out.mono ?_; rintro e w' ⟨rfl, hw⟩; subst hw)
    go_ret
    exact ⟨rfl, F, h0.out, StepF.refl w⟩
  | true =>
    have hsz := rightN_size hq
    rw [hq] at HRT
    rcases hD.now with ⟨rfl, rfl⟩ | ⟨b, rfl, hm⟩
    · have hln := Maps.look_nil (P := Try.prog) (w := w) true strLaw Try.underlying66 (zeroI w) (hkeyS hs)
      have hll : ∀ ty, (Builtin.len_ #[66] ty #[.map none]).run Try.prog w = .ok (.int .i64 0) w := fun ty => Maps.len_nil Try.underlying66 ty
      have HE : Hid (crE [] s = 0) := by show _ = _; unfold crE; rw [hq]; rfl
      have HCH := Lib.hid (change_any d F [] safe ws ⟨noN, s, i⟩ w h0.out hr hws (by omega) ⟨(show noN.size ≤ 1000 by decide), (show s.size ≤ 1000 by omega), hi⟩)
      clear hD
      rw [HE.out]
      go_enter Try.func31, Try.ntmps31
      go_wp2_with (first
        | (go_at_call 59; refine HRT.out.mono ?_; rintro e w' ⟨rfl, hw⟩; subst hw)
        | (go_at_call 60; refine HCH.out.mono ?_; rintro e w1 ⟨rfl, F', hd, hst⟩; have HD1 := Lib.hid hd; have HS1 := Lib.hid hst; clear hd hst))
      go_ret
      exact ⟨rfl, F', HD1.out, HS1.out⟩
    · have HM := Lib.hid hm
      cases hk : hasK Nt.nm now s with
      | true =>
        have HE : Hid (crE now s = 16) := by show _ = _; unfold crE; rw [hq]; rw [hk]; rfl
        rw [hk] at HH
        clear hD hm hk
        rw [HE.out]
        go_enter Try.func31, Try.ntmps31
        go_wp2_with (first
          | (go_at_call 59; refine HRT.out.mono ?_; rintro e w' ⟨rfl, hw⟩; subst hw)
          | (at_lookup; refine wpList_lookup_own_ok_int _ rfl _ _ 66 rfl 9 3 .i64 strLaw Try.underlying66 Try.underlying3 (zeroI _) b now.length (dirD now) rfl HM.out (.string s) (kS s) rfl (hkeyS hs) ?_; intro cc hat hwc; rw [HH.out]; clear hat hwc))
        go_ret
        exact ⟨rfl, F, h0.out, StepF.refl w⟩
      | false =>
        rw [hk] at HH
        by_cases hn : 16 ≤ now.length
        · have HE : Hid (crE now s = 14) := by show _ = _; unfold crE; rw [hq, hk]; simp [hn]
          have hni : (16 : Int) ≤ (now.length : Int) := by omega
          clear hD hm hk
          rw [HE.out]
          go_enter Try.func31, Try.ntmps31
          go_wp2_with (first
            | (go_at_call 59; refine HRT.out.mono ?_; rintro e w' ⟨rfl, hw⟩; subst hw)
            | (at_lookup; refine wpList_lookup_own_ok_int _ rfl _ _ 66 rfl 9 3 .i64 strLaw Try.underlying66 Try.underlying3 (zeroI _) b now.length (dirD now) rfl HM.out (.string s) (kS s) rfl (hkeyS hs) ?_; intro cc hat hwc; rw [HH.out]; clear hat hwc)
            | (at_len; refine wpList_len_own _ rfl _ 66 rfl 9 3 Try.underlying66 _ b now.length (dirD now) rfl HM.out ?_; rw [size_dirD]))
          go_ret
          exact ⟨rfl, F, h0.out, StepF.refl w⟩
        · have HE : Hid (crE now s = 0) := by show _ = _; unfold crE; rw [hq, hk]; simp [hn]
          have hni : ¬ (16 : Int) ≤ (now.length : Int) := by omega
          have HCH := Lib.hid (change_any d F now safe ws ⟨noN, s, i⟩ w h0.out hr hws hnow ⟨(show noN.size ≤ 1000 by decide), (show s.size ≤ 1000 by omega), hi⟩)
          clear hD hm hk
          rw [HE.out]
          go_enter Try.func31, Try.ntmps31
          go_wp2_with (first
            | (go_at_call 59; refine HRT.out.mono ?_; rintro e w' ⟨rfl, hw⟩; subst hw)
            | (at_lookup; refine wpList_lookup_own_ok_int _ rfl _ _ 66 rfl 9 3 .i64 strLaw Try.underlying66 Try.underlying3 (zeroI _) b now.length (dirD now) rfl HM.out (.string s) (kS s) rfl (hkeyS hs) ?_; intro cc hat hwc; rw [HH.out]; clear hat hwc)
            | (at_len; refine wpList_len_own _ rfl _ 66 rfl 9 3 Try.underlying66 _ b now.length (dirD now) rfl HM.out ?_; rw [size_dirD])
            | (go_at_call 60; refine HCH.out.mono ?_; rintro e w1 ⟨rfl, F', hd, hst⟩; have HD1 := Lib.hid hd; have HS1 := Lib.hid hst; clear hd hst))
          go_ret
          exact ⟨rfl, F', HD1.out, HS1.out⟩
set_option maxRecDepth 100000 in
set_option maxHeartbeats 1000000 in
theorem rename5_any (d : Nat) (F : Nat → Prop) (now safe : List Nt) (ws : List Ch) (a b0 : ByteArray) (w : World) (h : DirS w d X F now safe ws) (hr : Ris Nt.nm now) (hws : ws.length ≤ 1000) (hnow : now.length ≤ 100000) (hs : a.size ≤ 1000) :
    Calls Try.prog 41 #[.pointer (some ⟨d, 1, none⟩), .string a, .string b0] w fun e w' => e = .returned (.int .i64 (rnE now a b0)) ∧ ∃ F', DirS w' d X F' (chN (rnE now a b0) now ⟨a, b0, 0⟩) safe (chW (rnE now a b0) ws ⟨a, b0, 0⟩) ∧ StepF F F' w w' := by
  have h0 := Lib.hid h
  have HRT := Lib.hid (right5_any b0 w)
  have HH := Lib.hid (has_dirDs now a)
  obtain ⟨bn, bs, Aw, cw, hD⟩ := h
  obtain ⟨c0, c1, c2, f0, f1, f2⟩ := hD.cells
  cases hq : rightN b0 with
  | false =>
    have HE : Hid (rnE now a b0 = 6) := by show _ = _; unfold rnE; rw [hq]; rfl
    rw [hq] at HRT
    clear hD hq
    rw [HE.out]
    go_enter Try.func41, Try.ntmps41
    go_wp2_with (go_at_call 59; refine HRT.out.mono ?_; rintro e w' ⟨rfl, hw⟩; subst hw)
    go_ret
    exact ⟨rfl, F, h0.out, StepF.refl w⟩
  | true =>
    have hsz := rightN_size hq
    rw [hq] at HRT
    rcases hD.now with ⟨rfl, rfl⟩ | ⟨b, rfl, hm⟩
    · have hln := Maps.look_nil (P := Try.prog) (w := w) true strLaw Try.underlying66 (zeroI w) (hkeyS hs)
      have hll : ∀ ty, (Builtin.len_ #[66] ty #[.map none]).run Try.prog w = .ok (.int .i64 0) w := fun ty => Maps.len_nil Try.underlying66 ty
      have HE : Hid (rnE [] a b0 = 7) := by show _ = _; unfold rnE; rw [hq]; rfl
      clear hD
      rw [HE.out]
      go_enter Try.func41, Try.ntmps41
      go_wp2_with (go_at_call 59; refine HRT.out.mono ?_; rintro e w' ⟨rfl, hw⟩; subst hw)
      go_ret
      exact ⟨rfl, F, h0.out, StepF.refl w⟩
    · have HM := Lib.hid hm
      cases hk : hasK Nt.nm now a with
      | false =>
        have HE : Hid (rnE now a b0 = 7) := by show _ = _; unfold rnE; rw [hq]; rw [hk]; rfl
        rw [hk] at HH
        clear hD hm hk
        rw [HE.out]
        go_enter Try.func41, Try.ntmps41
        go_wp2_with (first
          | (go_at_call 59; refine HRT.out.mono ?_; rintro e w' ⟨rfl, hw⟩; subst hw)
          | (at_lookup; refine wpList_lookup_own_ok_int _ rfl _ _ 66 rfl 9 3 .i64 strLaw Try.underlying66 Try.underlying3 (zeroI _) b now.length (dirD now) rfl HM.out (.string a) (kS a) rfl (hkeyS hs) ?_; intro cc hat hwc; rw [HH.out]; clear hat hwc))
        go_ret
        exact ⟨rfl, F, h0.out, StepF.refl w⟩
      | true =>
        rw [hk] at HH
        have HE : Hid (rnE now a b0 = 0) := by show _ = _; unfold rnE; rw [hq]; rw [hk]; rfl
        have HCH := Lib.hid (change_any d F now safe ws ⟨a, b0, 0⟩ w h0.out hr hws hnow ⟨hs, (show b0.size ≤ 1000 by omega), wf0⟩)
        clear hD hm hk
        rw [HE.out]
        go_enter Try.func41, Try.ntmps41
        go_wp2_with (first
          | (go_at_call 59; refine HRT.out.mono ?_; rintro e w' ⟨rfl, hw⟩; subst hw)
          | (at_lookup; refine wpList_lookup_own_ok_int _ rfl _ _ 66 rfl 9 3 .i64 strLaw Try.underlying66 Try.underlying3 (zeroI _) b now.length (dirD now) rfl HM.out (.string a) (kS a) rfl (hkeyS hs) ?_; intro cc hat hwc; rw [HH.out]; clear hat hwc)
          | (go_at_call 60; refine HCH.out.mono ?_; rintro e w1 ⟨rfl, F', hd, hst⟩; have HD1 := Lib.hid hd; have HS1 := Lib.hid hst; clear hd hst))
        go_ret
        exact ⟨rfl, F', HD1.out, HS1.out⟩
set_option maxRecDepth 100000 in
set_option maxHeartbeats 1000000 in
theorem remove5_any (d : Nat) (F : Nat → Prop) (now safe : List Nt) (ws : List Ch) (a : ByteArray) (w : World) (h : DirS w d X F now safe ws) (hr : Ris Nt.nm now) (hws : ws.length ≤ 1000) (hnow : now.length ≤ 100000) (hs : a.size ≤ 1000) :
    Calls Try.prog 42 #[.pointer (some ⟨d, 1, none⟩), .string a] w fun e w' => e = .returned (.int .i64 (rmE now a)) ∧ ∃ F', DirS w' d X F' (chN (rmE now a) now ⟨a, noN, 0⟩) safe (chW (rmE now a) ws ⟨a, noN, 0⟩) ∧ StepF F F' w w' := by
  have h0 := Lib.hid h
  have HH := Lib.hid (has_dirDs now a)
  obtain ⟨bn, bs, Aw, cw, hD⟩ := h
  obtain ⟨c0, c1, c2, f0, f1, f2⟩ := hD.cells
  rcases hD.now with ⟨rfl, rfl⟩ | ⟨b, rfl, hm⟩
  · have hln := Maps.look_nil (P := Try.prog) (w := w) true strLaw Try.underlying66 (zeroI w) (hkeyS hs)
    have hll : ∀ ty, (Builtin.len_ #[66] ty #[.map none]).run Try.prog w = .ok (.int .i64 0) w := fun ty => Maps.len_nil Try.underlying66 ty
    have HE : Hid (rmE [] a = 7) := by show _ = _; unfold rmE; rfl
    clear hD
    rw [HE.out]
    go_enter Try.func42, Try.ntmps42
    go_wp2
    go_ret
    exact ⟨rfl, F, h0.out, StepF.refl w⟩
  · have HM := Lib.hid hm
    cases hk : hasK Nt.nm now a with
    | false =>
      have HE : Hid (rmE now a = 7) := by show _ = _; unfold rmE; rw [hk]; rfl
      rw [hk] at HH
      clear hD hm hk
      rw [HE.out]
      go_enter Try.func42, Try.ntmps42
      go_wp2_with (first
        | (at_lookup; refine wpList_lookup_own_ok_int _ rfl _ _ 66 rfl 9 3 .i64 strLaw Try.underlying66 Try.underlying3 (zeroI _) b now.length (dirD now) rfl HM.out (.string a) (kS a) rfl (hkeyS hs) ?_; intro cc hat hwc; rw [HH.out]; clear hat hwc))
      go_ret
      exact ⟨rfl, F, h0.out, StepF.refl w⟩
    | true =>
      rw [hk] at HH
      have HE : Hid (rmE now a = 0) := by show _ = _; unfold rmE; rw [hk]; rfl
      have HCH := Lib.hid (change_any d F now safe ws ⟨a, noN, 0⟩ w h0.out hr hws hnow ⟨hs, (show noN.size ≤ 1000 by decide), wf0⟩)
      clear hD hm hk
      rw [HE.out]
      go_enter Try.func42, Try.ntmps42
      go_wp2_with (first
        | (at_lookup; refine wpList_lookup_own_ok_int _ rfl _ _ 66 rfl 9 3 .i64 strLaw Try.underlying66 Try.underlying3 (zeroI _) b now.length (dirD now) rfl HM.out (.string a) (kS a) rfl (hkeyS hs) ?_; intro cc hat hwc; rw [HH.out]; clear hat hwc)
        | (go_at_call 60; refine HCH.out.mono ?_; rintro e w1 ⟨rfl, F', hd, hst⟩; have HD1 := Lib.hid hd; have HS1 := Lib.hid hst; clear hd hst))
      go_ret
      exact ⟨rfl, F', HD1.out, HS1.out⟩
end Go.Proofs.Ytcfkepahilioaaa
