/-
  The reference's Check of the sixteenth layer.
-/
import Derived.Test.YtojemaaljjibiaaStaRA
import Derived.Test.YtojemaaljjibiaaRBD
namespace Go.Proofs.Ytojemaaljjibiaa
open Go.RowKit
set_option linter.unusedVariables false

/-- An event's own variable. -/
abbrev EvBox (b : Nat) (v : Evt) (A : Option Addr) (ca : Nat) (B : Option Addr) (cb : Nat) (W : World) : Prop :=
  W.cell? ⟨b, 0, none⟩ = some (.int .i64 v.kind) ∧ W.cell? ⟨b, 1, none⟩ = some (.string (S v.ent.id)) ∧ W.cell? ⟨b, 2, none⟩ = some (.int .i64 v.ent.cls) ∧ W.cell? ⟨b, 3, none⟩ = some (.int .i64 v.ent.born) ∧ W.cell? ⟨b, 4, none⟩ = some (.int .i64 v.ent.slot) ∧
    W.cell? ⟨b, 5, none⟩ = some (.slice A v.ent.L.length ca) ∧ W.cell? ⟨b, 6, none⟩ = some (.bool v.ent.gone) ∧ W.cell? ⟨b, 7, none⟩ = some (.slice B v.ent.H.length cb) ∧ W.cell? ⟨b, 8, none⟩ = some (.int .i64 v.seq) ∧ W.cell? ⟨b, 9, none⟩ = some (.int .i64 v.idx) ∧
    W.cell? ⟨b, 10, none⟩ = some (.string (S v.name)) ∧ W.cell? ⟨b, 11, none⟩ = some (.int .i64 v.size) ∧ W.cell? ⟨b, 12, none⟩ = some (.string (S v.root)) ∧ W.cell? ⟨b, 13, none⟩ = some (.int .i64 v.now)
abbrev EvBoxC (kind : Int) (id : List UInt8) (cls born slot : Int) (n : Nat) (gone : Bool) (m : Nat) (seq idx : Int) (name : List UInt8) (size : Int) (root : List UInt8) (now : Int) (b : Nat) (A : Option Addr) (ca : Nat) (B : Option Addr) (cb : Nat) (W : World) : Prop :=
  W.cell? ⟨b, 0, none⟩ = some (.int .i64 kind) ∧ W.cell? ⟨b, 1, none⟩ = some (.string (S id)) ∧ W.cell? ⟨b, 2, none⟩ = some (.int .i64 cls) ∧ W.cell? ⟨b, 3, none⟩ = some (.int .i64 born) ∧ W.cell? ⟨b, 4, none⟩ = some (.int .i64 slot) ∧
    W.cell? ⟨b, 5, none⟩ = some (.slice A n ca) ∧ W.cell? ⟨b, 6, none⟩ = some (.bool gone) ∧ W.cell? ⟨b, 7, none⟩ = some (.slice B m cb) ∧ W.cell? ⟨b, 8, none⟩ = some (.int .i64 seq) ∧ W.cell? ⟨b, 9, none⟩ = some (.int .i64 idx) ∧
    W.cell? ⟨b, 10, none⟩ = some (.string (S name)) ∧ W.cell? ⟨b, 11, none⟩ = some (.int .i64 size) ∧ W.cell? ⟨b, 12, none⟩ = some (.string (S root)) ∧ W.cell? ⟨b, 13, none⟩ = some (.int .i64 now)
theorem EvBox.below {b : Nat} {v : Evt} {A B : Option Addr} {ca cb : Nat} {w w' : World} (h : EvBox b v A ca B cb w) (hb : Below w.heap.size w w') (hlt : b < w.heap.size) : EvBox b v A ca B cb w' := by
  have m := fun (i : Nat) (x : Value) (hc : w.cell? ⟨b, i, none⟩ = some x) => (hb.cell (p := ⟨b, i, none⟩) hlt).trans hc
  obtain ⟨h0, h1, h2, h3, h4, h5, h6, h7, h8, h9, h10, h11, h12, h13⟩ := h
  exact ⟨m _ _ h0, m _ _ h1, m _ _ h2, m _ _ h3, m _ _ h4, m _ _ h5, m _ _ h6, m _ _ h7, m _ _ h8, m _ _ h9, m _ _ h10, m _ _ h11, m _ _ h12, m _ _ h13⟩
abbrev RdC (b0 p be n pca k : Nat) (kind : Int) (id : List UInt8) (cls born slot : Int) (ll : Nat) (gone : Bool) (hl : Nat) (idx : Int) (name : List UInt8) (size : Int) (root : List UInt8) (now : Int) (A : Option Addr) (ca : Nat) (B : Option Addr) (cb : Nat) (xid : List UInt8) (xcls xborn xslot : Int) (xA : Option Addr) (xl xca : Nat) (xgone : Bool) (xB : Option Addr) (xh xcb : Nat) (W : World) : Prop :=
  W.cell? ⟨p, 0, none⟩ = some (.slice (some ⟨be, 0, none⟩) n pca) ∧ EvBoxC kind id cls born slot ll gone hl (k : Int) idx name size root now b0 A ca B cb W ∧
    W.cell? ⟨be, k * 7, none⟩ = some (.string (S xid)) ∧ W.cell? ⟨be, k * 7 + 1, none⟩ = some (.int .i64 xcls) ∧ W.cell? ⟨be, k * 7 + 2, none⟩ = some (.int .i64 xborn) ∧ W.cell? ⟨be, k * 7 + 3, none⟩ = some (.int .i64 xslot) ∧
    W.cell? ⟨be, k * 7 + 4, none⟩ = some (.slice xA xl xca) ∧ W.cell? ⟨be, k * 7 + 5, none⟩ = some (.bool xgone) ∧ W.cell? ⟨be, k * 7 + 6, none⟩ = some (.slice xB xh xcb)
theorem RdC.below {b0 p be n pca k : Nat} {kind : Int} {id : List UInt8} {cls born slot : Int} {ll : Nat} {gone : Bool} {hl : Nat} {idx : Int} {name : List UInt8} {size : Int} {root : List UInt8} {now : Int} {A : Option Addr} {ca : Nat} {B : Option Addr} {cb : Nat} {xid : List UInt8} {xcls xborn xslot : Int} {xA : Option Addr} {xl xca : Nat} {xgone : Bool} {xB : Option Addr} {xh xcb : Nat} {w w' : World}
    (h : RdC b0 p be n pca k kind id cls born slot ll gone hl idx name size root now A ca B cb xid xcls xborn xslot xA xl xca xgone xB xh xcb w) (hb : Below w.heap.size w w') (h1 : b0 < w.heap.size) (h2 : p < w.heap.size) (h3 : be < w.heap.size) :
    RdC b0 p be n pca k kind id cls born slot ll gone hl idx name size root now A ca B cb xid xcls xborn xslot xA xl xca xgone xB xh xcb w' := by
  have m := fun (b : Nat) (hlt : b < w.heap.size) (i : Nat) (x : Value) (hc : w.cell? ⟨b, i, none⟩ = some x) => (hb.cell (p := ⟨b, i, none⟩) hlt).trans hc
  obtain ⟨p0, ⟨y0, y1, y2, y3, y4, y5, y6, y7, y8, y9, y10, y11, y12, y13⟩, e0, e1, e2, e3, e4, e5, e6⟩ := h
  exact ⟨m _ h2 _ _ p0, ⟨m _ h1 _ _ y0, m _ h1 _ _ y1, m _ h1 _ _ y2, m _ h1 _ _ y3, m _ h1 _ _ y4, m _ h1 _ _ y5, m _ h1 _ _ y6, m _ h1 _ _ y7, m _ h1 _ _ y8, m _ h1 _ _ y9, m _ h1 _ _ y10, m _ h1 _ _ y11, m _ h1 _ _ y12, m _ h1 _ _ y13⟩, m _ h3 _ _ e0, m _ h3 _ _ e1, m _ h3 _ _ e2, m _ h3 _ _ e3, m _ h3 _ _ e4, m _ h3 _ _ e5, m _ h3 _ _ e6⟩
end Go.Proofs.Ytojemaaljjibiaa
