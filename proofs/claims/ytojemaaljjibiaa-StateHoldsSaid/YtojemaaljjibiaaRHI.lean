/-
  RHI: the texts StaRH, StaRI in one.
-/
import Derived.Test.YtojemaaljjibiaaRFG
import Derived.Test.YtojemaaljjibiaaStaThree
import Derived.Test.YtojemaaljjibiaaStaTwo
namespace Go.Proofs.Ytojemaaljjibiaa
open Go.RowKit
set_option linter.unusedVariables false

/-- What Apply reads ahead of its store. -/
abbrev SetS (kind : Int) (id : List UInt8) (cls born slot : Int) (n : Nat) (gone : Bool) (m : Nat) (seq idx : Int) (name : List UInt8) (size : Int) (root : List UInt8) (now : Int) (b : Nat) (A : Option Addr) (ca : Nat) (B : Option Addr) (cb : Nat) (p be pn pca : Nat) (W : World) : Prop :=
  EvBoxC kind id cls born slot n gone m seq idx name size root now b A ca B cb W ∧ W.cell? ⟨p, 0, none⟩ = some (.slice (some ⟨be, 0, none⟩) pn pca)
theorem SetS.of {kind : Int} {id : List UInt8} {cls born slot : Int} {n : Nat} {gone : Bool} {m : Nat} {seq idx : Int} {name : List UInt8} {size : Int} {root : List UInt8} {now : Int} {b : Nat} {A : Option Addr} {ca : Nat} {B : Option Addr} {cb p be pn pca : Nat} {w w' : World} (h : SetS kind id cls born slot n gone m seq idx name size root now b A ca B cb p be pn pca w) (hb : w'.heap[b]? = w.heap[b]?) (hp : w'.heap[p]? = w.heap[p]?) : SetS kind id cls born slot n gone m seq idx name size root now b A ca B cb p be pn pca w' := by
  have ck : ∀ {g : Nat} (hg : w'.heap[g]? = w.heap[g]?) (i : Nat) (x : Value), w.cell? ⟨g, i, none⟩ = some x → w'.cell? ⟨g, i, none⟩ = some x := fun hg i x hx => by
    rw [← hx]
    simp only [World.cell?, hg]
  obtain ⟨⟨h0, h1, h2, h3, h4, h5, h6, h7, h8, h9, h10, h11, h12, h13⟩, hq⟩ := h
  exact ⟨⟨ck hb _ _ h0, ck hb _ _ h1, ck hb _ _ h2, ck hb _ _ h3, ck hb _ _ h4, ck hb _ _ h5, ck hb _ _ h6, ck hb _ _ h7, ck hb _ _ h8, ck hb _ _ h9, ck hb _ _ h10, ck hb _ _ h11, ck hb _ _ h12, ck hb _ _ h13⟩, ck hp _ _ hq⟩
end Go.Proofs.Ytojemaaljjibiaa

namespace Go.Proofs.Ytojemaaljjibiaa
open Go.RowKit
set_option linter.unusedVariables false

theorem Sta.Inv.lens {st : Sta} (h : Sta.Inv st) : ∀ e ∈ st.P, e.L.length ≤ 1000 ∧ e.H.length ≤ 1000 := fun e he => by
  have hr := h.right e he
  unfold Ev.entR at hr
  simp only [Bool.and_eq_true, decide_eq_true_eq] at hr
  omega
end Go.Proofs.Ytojemaaljjibiaa
