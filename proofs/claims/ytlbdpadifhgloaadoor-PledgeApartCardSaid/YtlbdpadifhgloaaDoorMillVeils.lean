/-
  The contracts of mill's Stream and Veil, of any length.
-/
import Derived.Test.YtlbdpadifhgloaaDoorMillVeil
namespace Go.Proofs.YtlbdpadifhgloaaDoor
open Go.RowKit
set_option linter.unusedVariables false

theorem Mill.stream_len (l : List Mill.En) (hr : Mill.right l = true) (k label : List UInt8) (n : Nat) : (Mill.stream l k label n).length = n := by
  unfold Mill.stream
  rw [List.length_take, Mill.tags_len l hr]; omega
theorem stream_all (k label : List UInt8) (n : Nat) (g nb : Nat) (l : List Mill.En) (st : Mill.St) (w : World) (h : MillAt w g nb l st) (hr : Mill.right l = true) (hk : k.length ≤ 5000000000000000) (hlab : label.length ≤ 1000000000000000) (hn2 : n ≤ 1000000) (hT : Tabs w) :
    Calls Tryd.prog 37 #[.pointer (some ⟨g, 0, none⟩), .string (S k), .string (S label), .int .i64 (n : Int)] w (TextPost w (Mill.stream l k label n)) := by
  rcases Nat.eq_zero_or_pos n with h0 | h0
  · subst h0
    obtain ⟨tv, hc, _⟩ := h
    refine (stream_none g (S k) (S label) 0 (by decide) w (hc.cell 8)).mono ?_
    rintro e w' ⟨rfl, rfl⟩
    exact ⟨rfl, Below.refl _ _⟩
  · exact stream_any k label n g nb l st w h hr hk hlab h0 hn2 hT
theorem veil_any (k label s : List UInt8) (g nb : Nat) (l : List Mill.En) (st : Mill.St) (w : World) (h : MillAt w g nb l st) (hr : Mill.right l = true) (hk : k.length ≤ 5000000000000000) (hlab : label.length ≤ 1000000000000000) (hs : s.length ≤ 1000000) (hT : Tabs w) :
    Calls Tryd.prog 25 #[.pointer (some ⟨g, 0, none⟩), .string (S k), .string (S label), .string (S s)] w (TextPost w (Mill.veil (Mill.stream l k label s.length) s)) :=
  veil_of _ k label s g w hs (Mill.stream_len l hr k label _) (stream_all k label s.length g nb l st w h hr hk hlab hs hT)
end Go.Proofs.YtlbdpadifhgloaaDoor
