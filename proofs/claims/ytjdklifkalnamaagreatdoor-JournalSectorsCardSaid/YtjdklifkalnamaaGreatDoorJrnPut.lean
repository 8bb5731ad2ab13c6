/-
  Sectors that are put upon a disk without a loss armed, purely: what is read of them, and what waits. No program stands here.
-/
import Derived.Test.YtjdklifkalnamaaGreatDoorJrnPures
import Derived.Test.YtjdklifkalnamaaGreatDoorDskOne
namespace Go.Proofs.YtjdklifkalnamaaGreatDoor
set_option linter.unusedVariables false

namespace Jrn
theorem modify_get (L : List Dsk.Sec) (i k : Nat) (f : Dsk.Sec → Dsk.Sec) (hi : i < L.length) : (L.modify i f)[k]? = if k = i then some (f (L[i]'hi)) else L[k]? := by
  rw [List.getElem?_modify]
  by_cases h : k = i
  · subst h
    rw [if_pos rfl, List.getElem?_eq_getElem hi]
    simp
  · rw [if_neg h]
    have h' : ¬ i = k := fun e => h e.symm
    simp [h']
theorem read_up {d : Dsk.St} (hu : d.up = true) (k : Nat) : Dsk.read d (k : Int) = ((d.secs[k]?).map fun s => (s.now, (0 : Int))).getD ([], 5) := by
  unfold Dsk.read
  rw [if_neg (by rw [hu]; decide)]
  by_cases hk : k < d.secs.length
  · rw [if_neg (by omega), Int.toNat_natCast, List.getElem?_eq_getElem hk]
    rfl
  · rw [if_pos (by omega), List.getElem?_eq_none (by omega)]
    rfl
/-- A sector is written: what is read then. -/
theorem rx_put (d : Dsk.St) (i : Nat) (hi : i < d.secs.length) (hu : d.up = true) {a : Nat} {x : T} (hx : x.length ≤ 47) (ha : Grd.Stm a) (k : Nat) :
    rx (Dsk.put d i (Grd.grd a x)) k = if k = i then (x, a, 0) else rx d k := by
  have hup : (Dsk.put d i (Grd.grd a x)).up = true := hu
  have hget : (Dsk.put d i (Grd.grd a x)).secs[k]? = if k = i then some ⟨(d.secs[i]'hi).sure, (d.secs[i]'hi).at_, some (Grd.grd a x, d.acts)⟩ else d.secs[k]? := modify_get d.secs i k _ hi
  have hread : Dsk.read (Dsk.put d i (Grd.grd a x)) (k : Int) = if k = i then (Grd.grd a x, 0) else Dsk.read d (k : Int) := by
    rw [read_up hup, read_up hu, hget]
    by_cases h : k = i
    · rw [if_pos h, if_pos h]
      rfl
    · rw [if_neg h, if_neg h]
  unfold rx
  rw [read_eq, read_eq, hread]
  by_cases h : k = i
  · rw [if_pos h, if_pos h]
    dsimp only
    rw [if_neg (by simp), Grd.rd_grd hx ha]
    dsimp only
    rw [Int.toNat_natCast]
  · rw [if_neg h, if_neg h]
theorem put_calm {b wn : Nat} {d : Dsk.St} {i : Nat} {x : T} (hu : d.up = true) (harm : d.arm = none) (hi : i < d.secs.length) (hx : x.length ≤ 47) (hw : wn < 4294967295) :
    Grd.put b wn d (i : Int) x = ((Grd.stamp b wn : Int), 0, wn + 1, Dsk.put { d with acts := d.acts + 1 } i (Grd.grd (Grd.stamp b wn) x)) := by
  have hact : Dsk.act d = (true, { d with acts := d.acts + 1 }) := by unfold Dsk.act; rw [harm]
  have hW : Dsk.write d (i : Int) (Grd.grd (Grd.stamp b wn) x) = (0, Dsk.put { d with acts := d.acts + 1 } i (Grd.grd (Grd.stamp b wn) x)) := by
    unfold Dsk.write
    rw [if_neg (by rw [hu]; decide), if_neg (by omega), if_neg (by rw [Grd.grd_len hx]; decide), hact]
    dsimp only
    rw [if_neg (by decide), Int.toNat_natCast]
  unfold Grd.put
  rw [if_neg (by omega), if_neg (by omega), hW]
  dsimp only
  rw [if_neg (by simp)]
theorem waits_put (d : Dsk.St) (i : Nat) (hi : i < d.secs.length) (c : T) (k : Nat) : (k = i → k ∈ Dsk.waits (Dsk.put d i c).secs) ∧ (k ∈ Dsk.waits d.secs → k ∈ Dsk.waits (Dsk.put d i c).secs) := by
  have hget : (Dsk.put d i c).secs[k]? = if k = i then some ⟨(d.secs[i]'hi).sure, (d.secs[i]'hi).at_, some (c, d.acts)⟩ else d.secs[k]? := modify_get d.secs i k _ hi
  constructor
  · intro h
    rw [Dsk.waits_mem, hget, if_pos h]
    rfl
  · intro h
    rw [Dsk.waits_mem] at h
    rw [Dsk.waits_mem, hget]
    split
    · rfl
    · exact h
/-- **SECTORS ARE PUT, AND ALL GO WELL.** -/
theorem putAll_ok {b : Nat} (hb1 : 1 ≤ b) (hb2 : b ≤ 2147483647) : ∀ (xs : List T) (i wn : Nat) (d : Dsk.St), d.up = true → d.arm = none → i + xs.length ≤ d.secs.length → (∀ x ∈ xs, x.length ≤ 47) → wn + xs.length ≤ 4294967295 →
    ∃ d', putAll b xs (i : Int) wn d = (0, wn + xs.length, d') ∧ d'.up = true ∧ d'.arm = none ∧ d'.secs.length = d.secs.length ∧ d'.acts = d.acts + xs.length ∧ d'.falls = d.falls ∧
      (∀ k, rx d' k = if h : i ≤ k ∧ k < i + xs.length then (xs[k - i]'(by omega), Grd.stamp b (wn + (k - i)), 0) else rx d k) ∧ (∀ k, (i ≤ k ∧ k < i + xs.length) ∨ k ∈ Dsk.waits d.secs → k ∈ Dsk.waits d'.secs) := by
  intro xs
  induction xs with
  | nil =>
    intro i wn d hu ha hl hx hw
    refine ⟨d, rfl, hu, ha, rfl, rfl, rfl, fun k => ?_, fun k hk => ?_⟩
    · rw [dif_neg (by rw [List.length_nil]; omega)]
    · rcases hk with hk | hk
      · rw [List.length_nil] at hk; omega
      · exact hk
  | cons x xs ih =>
    intro i wn d hu ha hl hx hw
    rw [List.length_cons] at hl hw
    have hx0 := hx x (List.mem_cons_self ..)
    have hst : Grd.Stm (Grd.stamp b wn) := by unfold Grd.Stm Grd.stamp; omega
    have hp := put_calm (b := b) (wn := wn) (x := x) hu ha (by omega : i < d.secs.length) hx0 (by omega)
    have hlen : (Dsk.put { d with acts := d.acts + 1 } i (Grd.grd (Grd.stamp b wn) x)).secs.length = d.secs.length := by unfold Dsk.put; simp
    obtain ⟨d', e, h1, h2, h3, h4, h5, h6, h7⟩ := ih (i + 1) (wn + 1) (Dsk.put { d with acts := d.acts + 1 } i (Grd.grd (Grd.stamp b wn) x)) hu ha (by rw [hlen]; omega) (fun y hy => hx y (List.mem_cons_of_mem _ hy)) (by omega)
    have hrd0 : ∀ k, rx { d with acts := d.acts + 1 } k = rx d k := fun k => rfl
    refine ⟨d', ?_, h1, h2, by rw [h3, hlen], ?_, h5, fun k => ?_, fun k hk => ?_⟩
    · rw [putAll_cons, hp]
      dsimp only
      rw [if_neg (by simp), show ((i : Int) + 1) = ((i + 1 : Nat) : Int) by omega, e, List.length_cons]
      congr 2
      omega
    · rw [h4, List.length_cons]
      show d.acts + 1 + xs.length = _
      omega
    · rw [h6 k]
      by_cases hk : i + 1 ≤ k ∧ k < i + 1 + xs.length
      · rw [dif_pos hk, dif_pos (by rw [List.length_cons]; omega)]
        obtain ⟨m, hm⟩ : ∃ m, k - i = m + 1 := ⟨k - i - 1, by omega⟩
        have hm2 : k - (i + 1) = m := by omega
        simp only [hm, hm2, List.getElem_cons_succ]
        rw [show wn + 1 + m = wn + (m + 1) by omega]
      · rw [dif_neg hk, rx_put { d with acts := d.acts + 1 } i (by show i < d.secs.length; omega) hu hx0 hst k]
        by_cases hki : k = i
        · subst hki
          rw [if_pos rfl, dif_pos (by rw [List.length_cons]; omega)]
          simp only [Nat.sub_self, List.getElem_cons_zero, Nat.add_zero]
        · rw [if_neg hki, dif_neg (by rw [List.length_cons]; omega), hrd0]
    · refine h7 k ?_
      rw [List.length_cons] at hk
      by_cases hk1 : i + 1 ≤ k ∧ k < i + 1 + xs.length
      · exact Or.inl hk1
      · right
        rcases hk with hk | hk
        · exact (waits_put _ i (by show i < d.secs.length; omega) _ k).1 (by omega)
        · exact (waits_put { d with acts := d.acts + 1 } i (by show i < d.secs.length; omega) _ k).2 hk
/-- A new disk: nothing is read. -/
theorem rx_fresh (n k : Nat) : (rx (Dsk.fresh n) k).1 = [] := by
  unfold rx
  rw [read_eq]
  by_cases hk : k < n
  · have hr : Dsk.read (Dsk.fresh n) (k : Int) = (Grd.noughts, 0) := by
      rw [read_up rfl]
      show ((List.replicate n (⟨List.replicate 64 0, 0, none⟩ : Dsk.Sec))[k]?.map _).getD _ = _
      rw [List.getElem?_replicate, if_pos hk]
      rfl
    rw [hr]
    dsimp only
    rw [if_neg (by simp), Grd.rd_noughts]
  · have hr : Dsk.read (Dsk.fresh n) (k : Int) = ([], 5) := by
      rw [read_up rfl]
      show ((List.replicate n (⟨List.replicate 64 0, 0, none⟩ : Dsk.Sec))[k]?.map _).getD _ = _
      rw [List.getElem?_replicate, if_neg hk]
      rfl
    rw [hr, if_pos (by simp)]
theorem nextP_nil {r : Nat → X} {at_ left link : Nat} (h : (r at_).1 = []) : nextP r at_ left link = none := by
  unfold nextP readP
  rw [if_neg]
  rintro ⟨_, hc⟩
  rw [Nat.add_zero, h] at hc
  have := congrArg List.length hc
  rw [sc_len] at this
  simp at this
/-- No room: nothing is read. -/
theorem nextP_room {r : Nat → X} {at_ link : Nat} : nextP r at_ 0 link = none := by
  unfold nextP readP
  rw [if_neg]
  rintro ⟨h, _⟩
  omega
end Jrn
end Go.Proofs.YtjdklifkalnamaaGreatDoor
