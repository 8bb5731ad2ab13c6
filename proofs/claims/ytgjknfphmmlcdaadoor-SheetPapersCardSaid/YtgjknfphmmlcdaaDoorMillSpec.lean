/-
  What a mill answers, purely: what a table says, the tag, and what is noted. No program stands here.
-/
import Derived.Test.YtgjknfphmmlcdaaDoorShaSpec
namespace Go.Proofs.YtgjknfphmmlcdaaDoor
set_option linter.unusedVariables false

/-- What a table is asked: is it a tag, the key's sum, the text. -/
abbrev Mill.In := Bool × List UInt8 × List UInt8
/-- An entry of a table. -/
structure Mill.En where
  tag : Bool
  key : List UInt8
  text : List UInt8
  out : List UInt8
def Mill.En.inp (e : Mill.En) : Mill.In := (e.tag, if e.tag then Sha.sum e.key else [], e.text)
def Mill.ask (l : List Mill.En) (i : Mill.In) : Option (List UInt8) := (l.find? fun e => e.inp = i).map (·.out)
def Mill.right (l : List Mill.En) : Bool := l.all fun e => e.out.length = 32
def Mill.keyed (l : List Mill.En) : Bool := l.any (·.tag)
def Mill.hash (l : List Mill.En) (s : List UInt8) : List UInt8 := (Mill.ask l (false, [], s)).getD (Sha.sum s)
def Mill.key64 (k : List UInt8) : List UInt8 := if 64 < k.length then Sha.sum k else k
def Mill.pad (k : List UInt8) (x : UInt8) : List UInt8 := (k ++ List.replicate (64 - k.length) 0).map (· ^^^ x)
def Mill.hmac (k s : List UInt8) : List UInt8 := Sha.sum (Mill.pad (Mill.key64 k) 0x5c ++ Sha.sum (Mill.pad (Mill.key64 k) 0x36 ++ s))
def Mill.tag (l : List Mill.En) (k s : List UInt8) : List UInt8 := (Mill.ask l (true, Sha.sum k, s)).getD (Mill.hmac k s)

theorem Mill.ask_nil (i : Mill.In) : Mill.ask [] i = none := rfl
theorem Mill.ask_snoc (l : List Mill.En) (e : Mill.En) (i : Mill.In) : Mill.ask (l ++ [e]) i = if (Mill.ask l i).isSome then Mill.ask l i else if e.inp = i then some e.out else none := by
  unfold Mill.ask
  rw [List.find?_append]
  cases h : l.find? (fun e => e.inp = i) with
  | some x => simp
  | none =>
    simp only [Option.map_none, Option.isSome_none, Option.none_or]
    by_cases he : e.inp = i <;> simp [List.find?, he]
theorem Mill.ask_untagged (l : List Mill.En) (hl : Mill.keyed l = false) (k s : List UInt8) : Mill.ask l (true, k, s) = none := by
  unfold Mill.ask
  rw [Option.map_eq_none_iff, List.find?_eq_none]
  intro e he
  have : e.tag = false := by
    unfold Mill.keyed at hl
    rw [List.any_eq_false] at hl
    simpa using hl e he
  simp [Mill.En.inp, this]
theorem Mill.right_out (l : List Mill.En) (hr : Mill.right l = true) (i : Mill.In) (o : List UInt8) (h : Mill.ask l i = some o) : o.length = 32 := by
  unfold Mill.ask at h
  rw [Option.map_eq_some_iff] at h
  obtain ⟨e, he, rfl⟩ := h
  have hm := List.mem_of_find?_eq_some he
  unfold Mill.right at hr
  rw [List.all_eq_true] at hr
  simpa using hr e hm
theorem Mill.hash_len (l : List Mill.En) (hr : Mill.right l = true) (s : List UInt8) : (Mill.hash l s).length = 32 := by
  unfold Mill.hash
  cases h : Mill.ask l (false, [], s) with
  | none => exact Sha.sum_len s
  | some o => exact Mill.right_out l hr _ o h
theorem Mill.tag_len (l : List Mill.En) (hr : Mill.right l = true) (k s : List UInt8) : (Mill.tag l k s).length = 32 := by
  unfold Mill.tag
  cases h : Mill.ask l (true, Sha.sum k, s) with
  | none => exact Sha.sum_len _
  | some o => exact Mill.right_out l hr _ o h
theorem Mill.key64_len (k : List UInt8) : (Mill.key64 k).length ≤ 64 := by
  unfold Mill.key64
  split
  · rw [Sha.sum_len]; omega
  · omega
theorem Mill.pad_len (k : List UInt8) (x : UInt8) (h : k.length ≤ 64) : (Mill.pad k x).length = 64 := by
  simp [Mill.pad]; omega

/-- What is noted: sums with their texts, in order; the first two unlike texts of one sum; whether a note was left out; how often was asked. -/
structure Mill.St where
  notes : List (List UInt8 × List UInt8)
  a : List UInt8
  b : List UInt8
  met : Bool
  full : Bool
  sums : Nat
def Mill.fresh : Mill.St := ⟨[], [], [], false, false, 0⟩
/-- A text that was summed to h is noted. -/
def Mill.note (h s : List UInt8) (st : Mill.St) : Mill.St :=
  match st.notes.lookup h with
  | some t => if t ≠ s ∧ st.met = false then { st with a := t, b := s, met := true } else st
  | none => if st.notes.length < 20000 then { st with notes := st.notes ++ [(h, s)] } else { st with full := true }
def Mill.step (l : List Mill.En) (s : List UInt8) (st : Mill.St) : Mill.St :=
  Mill.note (Mill.hash l s) s { st with sums := st.sums + 1 }
theorem Mill.note_sums (h s : List UInt8) (st : Mill.St) : (Mill.note h s st).sums = st.sums := by
  unfold Mill.note
  split <;> split <;> rfl
theorem Mill.step_sums (l : List Mill.En) (s : List UInt8) (st : Mill.St) : (Mill.step l s st).sums = st.sums + 1 := Mill.note_sums _ _ _

/-- A key's stream of a label: the tags of the first n numbers. -/
def Mill.lab (label : List UInt8) (i : Nat) : List UInt8 := label ++ [UInt8.ofNat (i / 256), UInt8.ofNat i]
def Mill.tags (l : List Mill.En) (k label : List UInt8) (n : Nat) : List UInt8 := ((List.range n).map fun i => Mill.tag l k (Mill.lab label i)).flatten
theorem Mill.tags_succ (l : List Mill.En) (k label : List UInt8) (n : Nat) : Mill.tags l k label (n + 1) = Mill.tags l k label n ++ Mill.tag l k (Mill.lab label n) := by
  unfold Mill.tags
  rw [List.range_succ, List.map_append, List.flatten_append]
  simp
theorem Mill.tags_len (l : List Mill.En) (hr : Mill.right l = true) (k label : List UInt8) : ∀ n, (Mill.tags l k label n).length = 32 * n
  | 0 => rfl
  | n + 1 => by rw [Mill.tags_succ, List.length_append, Mill.tags_len l hr k label n, Mill.tag_len l hr]; omega
def Mill.stream (l : List Mill.En) (k label : List UInt8) (n : Nat) : List UInt8 := (Mill.tags l k label ((n + 31) / 32)).take n
def Mill.xor (s b : List UInt8) : List UInt8 := List.zipWith (· ^^^ ·) s b
end Go.Proofs.YtgjknfphmmlcdaaDoor
