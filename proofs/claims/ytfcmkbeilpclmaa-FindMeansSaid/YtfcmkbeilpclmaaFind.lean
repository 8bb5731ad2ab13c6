/-
  The contracts of slices.IndexFunc at fields and of paper's Find.
-/
import Derived.Test.YtfcmkbeilpclmaaSortMem
namespace Go.Proofs.Ytfcmkbeilpclmaa
open Go.RowKit Go.Lib
set_option linter.unusedVariables false


/-- A field lies at an offset of a block. -/
def FAt (W : World) (b o : Nat) (x : Fld) : Prop :=
  W.cell? ⟨b, o, none⟩ = some (.string (S x.name)) ∧ W.cell? ⟨b, o + 1, none⟩ = some (.int .i64 x.val.kind) ∧ W.cell? ⟨b, o + 2, none⟩ = some (.bool x.val.flag) ∧
  W.cell? ⟨b, o + 3, none⟩ = some (.int .i64 x.val.int) ∧ W.cell? ⟨b, o + 4, none⟩ = some (.int .u64 (x.val.bits : Int)) ∧ W.cell? ⟨b, o + 5, none⟩ = some (.string (S x.val.text))
theorem FAt.keep {w w' : World} {b o : Nat} {x : Fld} (h : FAt w b o x) (hb : w'.heap[b]? = w.heap[b]?) : FAt w' b o x :=
  ⟨(World.cell?_of_block hb).trans h.1, (World.cell?_of_block hb).trans h.2.1, (World.cell?_of_block hb).trans h.2.2.1, (World.cell?_of_block hb).trans h.2.2.2.1, (World.cell?_of_block hb).trans h.2.2.2.2.1, (World.cell?_of_block hb).trans h.2.2.2.2.2⟩
/-- A slice that reads as fields. -/
def FSl (w : World) (b : Nat) (A : Option Addr) (L : List Fld) : Prop := L ≠ [] → ∃ off, A = some ⟨b, off, none⟩ ∧ b < w.heap.size ∧ ∀ i (h : i < L.length), FAt w b (off + i * 6) L[i]
theorem FSl.keep {w w' : World} {b : Nat} {A : Option Addr} {L : List Fld} (h : FSl w b A L) (hs : w.heap.size ≤ w'.heap.size) (hb : w'.heap[b]? = w.heap[b]?) : FSl w' b A L := fun hl => by
  obtain ⟨off, hA, hlt, hc⟩ := h hl
  exact ⟨off, hA, by omega, fun i hi => (hc i hi).keep hb⟩
theorem FSl.below {w w' : World} {b B : Nat} {A : Option Addr} {L : List Fld} (h : FSl w b A L) (hb : Below B w w') (hB : w.heap.size ≤ B) : FSl w' b A L := fun hl => by
  obtain ⟨off, hA, hlt, hc⟩ := h hl
  exact ⟨off, hA, by have := hb.size; omega, fun i hi => (hc i hi).keep (hb.block b (by omega))⟩

set_option maxHeartbeats 1000000 in
theorem closure_find (x : Fld) (name : List UInt8) (B : Nat) (w : World) (hc : w.cell? ⟨B, 0, none⟩ = some (.string (S name))) (hB : B < w.heap.size) :
    Calls Try.prog 72 #[x.v, .pointer (some ⟨B, 0, none⟩)] w fun r w' => r = .returned (.bool (x.name == name)) ∧ Below w.heap.size w w' := by
  obtain ⟨n, x⟩ := x
  show Calls _ _ _ _ fun r w' => r = .returned (.bool (n == name)) ∧ _
  rw [Fld.v_eq]
  cases he : n == name
  all_goals
    go_enter Try.func72, Try.ntmps72
    go_wp2_with fail
    go_ret
    exact ⟨rfl, up1 _⟩

/-- Where the first of a name is. -/
def Pap.find (name : List UInt8) (L : List Fld) : Int := match L.findIdx? (fun f => f.name == name) with | some i => (i : Int) | none => -1
theorem Pap.find_at {name : List UInt8} {L : List Fld} {k : Nat} (hk : k < L.length) (he : (L[k].name == name) = true) (hb : ∀ t (h : t < k), (L[t].name == name) = false) : Pap.find name L = (k : Int) := by
  have : L.findIdx? (fun f => f.name == name) = some k := List.findIdx?_eq_some_iff_getElem.2 ⟨hk, he, fun t ht => by simpa using hb t ht⟩
  unfold Pap.find
  rw [this]
theorem Pap.find_none {name : List UInt8} {L : List Fld} (hb : ∀ t (h : t < L.length), (L[t].name == name) = false) : Pap.find name L = -1 := by
  have : L.findIdx? (fun f => f.name == name) = none := by
    rw [List.findIdx?_eq_none_iff]
    intro x hx
    obtain ⟨t, ht, rfl⟩ := List.mem_iff_getElem.1 hx
    exact hb t ht
  unfold Pap.find
  rw [this]

set_option maxHeartbeats 2000000 in
theorem indexFunc_any (L : List Fld) (name : List UInt8) (b B cap : Nat) (A : Option Addr) (w : World) (hF : FSl w b A L) (hc : w.cell? ⟨B, 0, none⟩ = some (.string (S name))) (hB : B < w.heap.size) (hL : L.length ≤ 1000000) :
    Calls Try.prog 71 #[.slice A L.length cap, .func (.func 72) #[] #[.pointer (some ⟨B, 0, none⟩)]] w fun r w' => r = .returned (.int .i64 (Pap.find name L)) ∧ Below w.heap.size w w' := by
  have hX := fun (x : Fld) W (h : Below w.heap.size w W) => closure_find x name B W ((h.cell (p := ⟨B, 0, none⟩) hB).trans hc) (Nat.lt_of_lt_of_le hB h.size)
  have HX := Lib.hid hX; clear hX hc
  have hat := fun (k : Nat) (hk : k < L.length) he hb => Pap.find_at (name := name) (L := L) (k := k) hk he hb
  have hno := Pap.find_none (name := name) (L := L)
  generalize Pap.find name L = res at hat hno ⊢
  have HAT := Lib.hid hat; clear hat
  have HNO := Lib.hid hno; clear hno
  have HF := Lib.hid hF; clear hF
  have eg := enters_of Try.func72 (by kernel_rfl) rfl
  go_enter Try.func71, Try.ntmps71
  go_wp2_with fail
  go_loopg [8] L.length (fun g1 v8 wr => ∃ k : Nat, k ≤ L.length ∧ v8 = .int .i64 (k : Int) ∧ L.length - k ≤ g1 ∧ (∀ t (h : t < k) (hl : t < L.length), (L[t].name == name) = false) ∧ Below w.heap.size w wr)
  case atStart => exact ⟨0, Nat.zero_le _, rfl, by omega, fun t h => absurd h (by omega), Below.refl _ _⟩
  case round =>
    obtain ⟨k, hk, rfl, hg, hall, hbk⟩ := hrel
    have HALL := Lib.hid hall; clear hall
    by_cases hlt : k < L.length
    · have hki : (k : Int) < (L.length : Int) := by omega
      obtain ⟨off, hA, -, hfat⟩ := (HF.out.below hbk (Nat.le_refl _)) (by intro hc; rw [hc] at hlt; cases hlt)
      subst hA
      have hfk := hfat k hlt
      clear hfat
      have hX := HX.out L[k] wr hbk
      have hone := HAT.out k hlt
      have hall2 : (L[k].name == name) = false → ∀ t (h : t < k + 1) (hl : t < L.length), (L[t].name == name) = false := fun he t h hl => by
        by_cases e : t = k
        · subst e; exact he
        · exact HALL.out t (by omega) hl
      have HALL2 := Lib.hid hall2; clear hall2
      have HONE := Lib.hid hone; clear hone
      generalize L[k] = x at hfk hX HONE HALL2
      obtain ⟨n, x⟩ := x
      rw [Fld.v_eq] at hX
      obtain ⟨c0, c1, c2, c3, c4, c5⟩ := hfk
      dsimp only at c0 c1 c2 c3 c4 c5 hX
      have HXX := Lib.hid hX; clear hX
      cases he : n == name
      · rw [he] at HXX
        have HE := Lib.hid he; clear he
        go_wp2_with fail
        refine (HXX.out).mono ?_
        rintro r w1 ⟨rfl, hb1⟩
        have hb2 := hbk.trans (hb1.mono hbk.size)
        clear c0 c1 c2 c3 c4 c5
        go_wp2_with fail
        go_roundg (L.length - (k + 1))
        case measure => omega
        case rel => exact ⟨k + 1, by omega, by go_num, Nat.le_refl _, HALL2.out HE.out, hb2⟩
      · rw [he] at HXX
        have HE := Lib.hid he; clear he
        go_wp2_with fail
        refine (HXX.out).mono ?_
        rintro r w1 ⟨rfl, hb1⟩
        have hb2 := hbk.trans (hb1.mono hbk.size)
        clear c0 c1 c2 c3 c4 c5
        go_wp2_with fail
        go_ret
        exact ⟨ret_int (HONE.out HE.out (fun t ht => HALL.out t ht (by omega))).symm, hb2⟩
    · obtain rfl : k = L.length := by omega
      go_wp2_with fail
      go_ret
      exact ⟨ret_int (HNO.out (fun t ht => HALL.out t ht ht)).symm, hbk⟩
end Go.Proofs.Ytfcmkbeilpclmaa
