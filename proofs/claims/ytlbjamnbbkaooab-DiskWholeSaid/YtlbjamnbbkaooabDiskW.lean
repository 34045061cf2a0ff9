/- Law DiskWhole, over whatever came in. -/
import Derived.Test.YtlbjamnbbkaooabDiskWhole
import Derived.Test.YtlbjamnbbkaooabOpens
import Derived.OpenShut
namespace Go.Proofs.Ytlbjamnbbkaooab
open Go.RowKit

theorem whole_all (cs : Array Value) (w : World) (h : Lies w (.cons (.slice (.int .u8)) (.cons (.slice (.int .u8)) (.cons (.int .i64) (.cons (.slice .bool) .nil)))) cs.toList) :
    Calls Try.prog 5 #[.agg cs] w fun e w' => e = .returned (.bool true) ∧ Below w.heap.size w w' := by
  obtain ⟨a, r1, e1, _, _, ha, h1⟩ := h
  obtain ⟨b, r2, rfl, _, _, hb, h2⟩ := h1
  obtain ⟨p, r3, rfl, _, _, hp, h3⟩ := h2
  obtain ⟨k, r4, rfl, _, _, hk, h4⟩ := h3
  have h4' : r4 = [] := h4
  subst h4'
  obtain ⟨aP, al, ac, _, rfl, ha'⟩ := id ha
  obtain ⟨bP, bl, bc, _, rfl, hb'⟩ := id hb
  obtain ⟨n, rfl, hn⟩ := hp
  obtain ⟨kP, kl, kc, _, rfl, hk'⟩ := id hk
  obtain ⟨xs, hxl, hxm, hx⟩ := bytes_of_lies ha
  obtain ⟨bs, hbl, hbm, hbs⟩ := bytes_of_lies hb
  obtain ⟨ks, hkl, hkm, hks⟩ := bools_of_lies hk
  have hm : maxLen ≤ 9223372036854775807 := by unfold maxLen; omega
  have h64 := bounds_i64 hn
  have e2 : cs = #[.slice aP al ac, .slice bP bl bc, .int .i64 n, .slice kP kl kc] := by
    apply Array.toList_inj.1
    rw [e1]
    rfl
  subst e2
  exact whole_any aP bP kP al ac bl bc kl kc n xs bs ks w (by omega) (by omega) hxl hbl hkl (by omega) (by omega) (by omega) hx hbs hks
end Go.Proofs.Ytlbjamnbbkaooab
