/-
  What pledges, keys, salts, ciphertexts are, purely. No program stands here.
-/
import Derived.Test.YtlbdpadifhgloaaDoorMillVeils
import Derived.Test.YtlbdpadifhgloaaDoorMillTv
import Derived.Test.YtlbdpadifhgloaaDoorNum
namespace Go.Proofs.YtlbdpadifhgloaaDoor
open Go.RowKit
set_option linter.unusedVariables false

namespace Plg
/-- A text as it is laid. -/
def txt (s : List UInt8) : List UInt8 := M.encL s.length ++ s
def of (id name salt value : List UInt8) : List UInt8 := 2 :: (txt id ++ (txt name ++ (txt salt ++ txt value)))
def key (l : List Mill.En) (draw : List UInt8) : List UInt8 := Mill.tag l draw [107, 101, 121]
def saltText (name : List UInt8) : List UInt8 := [115, 97, 108, 116] ++ txt name
def salt (l : List Mill.En) (draw name : List UInt8) : List UInt8 := (Mill.tag l draw (saltText name)).take 16
def label (name : List UInt8) : List UInt8 := [102, 105, 101, 108, 100] ++ txt name
def veil (l : List Mill.En) (key name s : List UInt8) : List UInt8 := Mill.veil (Mill.stream l key (label name) s.length) s
def openR (p : List UInt8) : List UInt8 × List UInt8 × Bool := if p.length < 16 then ([], [], false) else (p.take 16, p.drop 16, true)
def opened (l : List Mill.En) (key name c : List UInt8) : List UInt8 × List UInt8 × Bool := openR (veil l key name c)

theorem txt_len (s : List UInt8) : (txt s).length ≤ s.length + 8 := by
  unfold txt
  have := M.encL_len s.length
  rw [List.length_append]; omega
theorem of_len (id name salt value : List UInt8) : (of id name salt value).length ≤ id.length + name.length + salt.length + value.length + 40 := by
  have h1 := txt_len id
  have h2 := txt_len name
  have h3 := txt_len salt
  have h4 := txt_len value
  unfold of
  rw [List.length_cons, List.length_append, List.length_append, List.length_append]
  omega
theorem of_small {id name salt value : List UInt8} (h1 : id.length ≤ 1000000) (h2 : name.length ≤ 1000000) (h3 : salt.length ≤ 1000000) (h4 : value.length ≤ 1000000) : (of id name salt value).length ≤ 5000000000000000 := by
  have := of_len id name salt value
  omega
theorem cat5 (x : UInt8) (a b c d u1 u2 u3 u4 : List UInt8) (e1 : x :: a = u1) (e2 : u1 ++ b = u2) (e3 : u2 ++ c = u3) (e4 : u3 ++ d = u4) : x :: (a ++ (b ++ (c ++ d))) = u4 := by
  subst e1; subst e2; subst e3; subst e4
  simp
theorem veil_len (l : List Mill.En) (hr : Mill.right l = true) (key name s : List UInt8) : (veil l key name s).length = s.length :=
  Mill.veil_len _ _ (Mill.stream_len l hr key (label name) _)
theorem veil_twice (l : List Mill.En) (hr : Mill.right l = true) (key name s : List UInt8) : veil l key name (veil l key name s) = s := by
  have hl := veil_len l hr key name s
  unfold veil at *
  rw [hl]
  exact Mill.veil_twice _ _ (Mill.stream_len l hr key (label name) _)
theorem salt_len (l : List Mill.En) (hr : Mill.right l = true) (draw name : List UInt8) : (salt l draw name).length = 16 := by
  unfold salt
  rw [List.length_take, Mill.tag_len l hr]
  rfl
theorem opened_shut (l : List Mill.En) (hr : Mill.right l = true) (key name salt value : List UInt8) (hs : salt.length = 16) : opened l key name (veil l key name (salt ++ value)) = (salt, value, true) := by
  unfold opened
  rw [veil_twice l hr]
  unfold openR
  rw [if_neg (by rw [List.length_append]; omega), List.take_left' hs, List.drop_left' hs]
end Plg
end Go.Proofs.YtlbdpadifhgloaaDoor
