/- strings.Builder at a dump that lays Join: WriteString, WriteByte, String. -/
import Derived.Test.YtkgkefifcpneiaaDoorLay
import Derived.Test.YtkgkefifcpneiaaDoorFoot
namespace Go.Proofs.YtkgkefifcpneiaaDoor
open Go.RowKit

theorem lays166' : Go.Proofs.Lays.n166 Tryd.prog Tryd.lays156_ren :=
  have L := Tryd.lays156
  ⟨L.mixed, L.f166, L.f240, L.f276, L.t0, L.a0, L.z0, L.v0, L.t3, L.a3, L.z3, L.v3, L.t4, L.a4, L.z4, L.v4, L.t9, L.a9, L.z9, L.v9, L.t20, L.a20, L.z20, L.v20, L.t37, L.a37, L.z37, L.v37, L.t70, L.a70, L.z70, L.v70, L.t72, L.a72, L.z72, L.v72, L.t75, L.a75, L.z75, L.v75, L.t164, L.a164, L.z164, L.v164⟩
theorem wstr_any (B b : Nat) (bs : List Value) (s : ByteArray) (w : World) (h : Lib.IsBuilder 71 5 B b bs w) (hlen : bs.length + s.size ≤ 140737488355328) (hBw : B ≤ w.heap.size) :
    Calls Tryd.prog 30 #[.pointer (some ⟨b, 0, none⟩), .string s] w fun e w' => e = .returned (.tuple #[.int .i64 s.size, .nilIface]) ∧ (Lib.BuilderAt 71 5 B b (.pointer (some ⟨b, 0, none⟩)) (bs ++ Lib.strCells s) w' ∧ Below B w w') :=
  Any.Builder_WriteString lays166' Tryd.Builder_Extra_156 B b bs s w h hlen hBw
def ren167 : Go.Shelf.Ren := { Tryd.lays156_ren with f := fun | 167 => 31 | n => Tryd.lays156_ren.f n }
theorem lays167' : Go.Proofs.Lays.n167 Tryd.prog ren167 :=
  have L := Tryd.lays156
  ⟨L.mixed, Tryd.func31.trans (congrArg some (by kernel_rfl)), L.f240.trans (congrArg some (by kernel_rfl)), L.f276.trans (congrArg some (by kernel_rfl)), L.t0, L.a0, L.z0, L.v0, L.t4, L.a4, L.z4, L.v4, Tryd.underlying5, Tryd.isAgg5, Tryd.sizeOf5, Tryd.zeroValue5, L.t9, L.a9, L.z9, L.v9, L.t20, L.a20, L.z20, L.v20, L.t37, L.a37, L.z37, L.v37, L.t70, L.a70, L.z70, L.v70, L.t72, L.a72, L.z72, L.v72, L.t75, L.a75, L.z75, L.v75, L.t164, L.a164, L.z164, L.v164⟩
theorem extra167' : Builder.Extra Tryd.prog ren167 :=
  { sizeBuilder := by kernel_rfl
    liesBuilder := by kernel_rfl
    t5 := Tryd.underlying5
    a5 := Tryd.isAgg5
    z5 := Tryd.sizeOf5
    v5 := Tryd.zeroValue5
    infoByte := by kernel_rfl
    cellsByte := by kernel_rfl
    sizeByte := by kernel_rfl
    neB5 := by decide }
theorem wbyte_any (B b : Nat) (bs : List Value) (c : Int) (w : World) (h : Lib.IsBuilder 71 5 B b bs w) (hlen : bs.length + 1 ≤ 140737488355328) (hBw : B ≤ w.heap.size) :
    Calls Tryd.prog 31 #[.pointer (some ⟨b, 0, none⟩), .int .u8 c] w fun e w' => e = .returned .nilIface ∧ (Lib.BuilderAt 71 5 B b (.pointer (some ⟨b, 0, none⟩)) (bs ++ [.int .u8 c]) w' ∧ Below B w w') :=
  Any.Builder_WriteByte lays167' extra167' B b bs c w h hlen hBw
theorem bstring_any (B b : Nat) (l : List UInt8) (w : World) (h : Lib.IsBuilder 71 5 B b (Lib.byteCells l) w) (hBw : B ≤ w.heap.size) :
    Calls Tryd.prog 32 #[.pointer (some ⟨b, 0, none⟩)] w fun e w' => e = .returned (.string ⟨l.toArray⟩) ∧ Below B w w' := Tryd.Builder_String_any B b l w h hBw
theorem builder_keep {T e : TypeId} {B b : Nat} {p : Value} {bs : List Value} {w w' : World} {S : Nat → Prop} (h : Lib.BuilderAt T e B b p bs w) (hm : Mod S w w') (hS : ∀ k, k < w.heap.size → ¬ S k) : Lib.BuilderAt T e B b p bs w' := by
  obtain ⟨h1, v, h2, h3, h4⟩ := h
  exact ⟨h1, v, hm.keep h2 (hS b (Array.getElem?_eq_some_iff.1 h2).1), own_keep h3 hm (fun k hk => hS k (own_lt h3 k hk)), h4⟩
theorem isBuilder_keep {T e : TypeId} {B b : Nat} {bs : List Value} {w w' : World} {S : Nat → Prop} (h : Lib.IsBuilder T e B b bs w) (hm : Mod S w w') (hS : ∀ k, k < w.heap.size → ¬ S k) : Lib.IsBuilder T e B b bs w' := by
  rcases h with h | h
  · exact .inl (builder_keep h hm hS)
  · exact .inr (builder_keep h hm hS)
end Go.Proofs.YtkgkefifcpneiaaDoor
