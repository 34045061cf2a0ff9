/- The reference's number of four bytes that is there. -/
import Derived.Test.YtnccbnadfgilaaaKFieldG
import Derived.Test.YtnccbnadfgilaaaKSts
namespace Go.Proofs.Ytnccbnadfgilaaa
open Go.RowKit FieldP

set_option maxRecDepth 100000 in
set_option maxHeartbeats 400000 in
theorem refNumber_any (A : Option Addr) (l c : Nat) (bs : List UInt8) (B : Nat) (p : Nat) (w : World) (hl : bs.length = l) (hm : l ≤ 1099511627776) (hp : p + 4 ≤ l) (hb : Bytes w B A bs) :
    Calls Try.prog 24 #[.slice A l c, .int .i64 (p : Int), .int .i64 4] w fun e w' => e = .returned (.int .i64 ((val ((bs.drop p).take 4) : Nat) : Int)) ∧ w = w' := by
  have HG := Lib.hid (refGet_any A l c bs B p 4 w hl (by omega) (by omega) (by omega) (by omega) (by omega) hb)
  rw [show cnt 4 = 4 from rfl, getN_some (by omega)] at HG
  have hx : val ((bs.drop p).take 4) < 4294967296 := getN_lt (k := 4) (Nat.le_refl _) (getN_some (bs := bs) (a := p) (by omega))
  clear hl hb
  obtain ⟨x, hv⟩ : ∃ x, val ((bs.drop p).take 4) = x := ⟨_, rfl⟩
  rw [hv] at HG hx ⊢
  rw [show (orZero (some x)).1 = (x : Int) from rfl] at HG
  clear hv
  go_enter Try.func24, Try.ntmps24
  go_wp2_with (go_at_call 40; refine HG.out.mono ?_; rintro e w' ⟨rfl, rfl⟩)
  go_ret
  exact ⟨rfl, rfl⟩
end Go.Proofs.Ytnccbnadfgilaaa
