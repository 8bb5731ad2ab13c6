/-
  SymTwo: the texts SymD, SymE in one.
-/
import Derived.Test.YtfppobnfajkmmaaSymOne
import Derived.Deep.Cut
import Derived.Deep.DeepCutAuto
import Derived.Deep.CutBlock
import Derived.Test.YtfppobnfajkmmaaSymA
import Derived.Test.YtfppobnfajkmmaaSymC
namespace Go.Proofs.Ytfppobnfajkmmaa
open Go.RowKit Go.Sort Go.Lib
open Go.Op (bytesLess)
set_option linter.unusedVariables false

theorem rotate_at {w : World} {blk off : Nat} {d0 : Array Fld} (hH : HoldsK Fld.cs 6 w blk off d0) (hblk : blk < w.heap.size) (hsz : d0.size < 1000000) (n cap : Nat) (C : List Fld) (os : Array Obj) (hC : C.length = d0.size) (x y z : Nat) (X A B Y : List Fld)
    (hCe : C = X ++ (A ++ (B ++ Y))) (hA : 0 < A.length) (hB : 0 < B.length) (hx : x = X.length) (hy : y = X.length + A.length) (hz : z = X.length + A.length + B.length) :
    Calls Try.prog 61 #[.slice (some ⟨blk, off, none⟩) d0.size cap, .int .i64 (x : Int), .int .i64 (y : Int), .int .i64 (z : Int), .func (.func 20) #[] #[]] (SW w blk off n C.toArray os) fun e w' =>
      e = .returned (.tuple #[]) ∧ ∃ m os, w' = SW w blk off m (X ++ (B ++ (A ++ Y))).toArray os := by
  have h := rotate_any X A B Y hA hB blk off cap x y z (SW w blk off n C.toArray os) C.toArray (by rw [hCe]) (SW_holds hH hblk n C.toArray os hC) (Nat.lt_of_lt_of_le hblk (SW_size w blk off n C.toArray os)) (by show C.length < 1000000; omega) hx hy hz
  rw [show C.toArray.size = d0.size from hC] at h
  refine h.mono fun e w' hh => ⟨hh.1, ?_⟩
  obtain ⟨m, os', rfl⟩ := hh.2
  refine ⟨n + m, os ++ os', SW_SW w blk off n m C.toArray _ os os' hblk ?_⟩
  show (X ++ (B ++ (A ++ Y))).length = C.length
  rw [hCe]
  simp only [List.length_append]
  omega

/-- The merge of a part, where it is as short as k. -/
def SymAt (w : World) (blk off : Nat) (d0 : Array Fld) (cap k : Nat) : Prop :=
  ∀ (X A B Y : List Fld) (n : Nat) (os : Array Obj), (X ++ (A ++ (B ++ Y))).length = d0.size → 0 < A.length → 0 < B.length → A.length + B.length ≤ k → Stab.Sorted Fld.name A → Stab.Sorted Fld.name B → ∀ a m b : Nat, a = X.length → m = X.length + A.length → b = X.length + A.length + B.length →
    Calls Try.prog 56 #[.slice (some ⟨blk, off, none⟩) d0.size cap, .int .i64 (a : Int), .int .i64 (m : Int), .int .i64 (b : Int), .func (.func 20) #[] #[]] (SW w blk off n (X ++ (A ++ (B ++ Y))).toArray os) fun e w' =>
      e = .returned (.tuple #[]) ∧ ∃ m os', w' = SW w blk off m (X ++ (fsort (A ++ B) ++ Y)).toArray os'

set_option maxHeartbeats 40000000 in
set_option maxRecDepth 100000 in
theorem symG_any {w : World} {blk off : Nat} {d0 : Array Fld} (hH : HoldsK Fld.cs 6 w blk off d0) (hblk : blk < w.heap.size) (hsz : d0.size < 1000000) (cap : Nat) (X A B Y : List Fld) (n : Nat) (os : Array Obj) (hIH : SymAt w blk off d0 cap (A.length + B.length - 1))
    (hC : (X ++ (A ++ (B ++ Y))).length = d0.size) (hA1 : 1 < A.length) (hB1 : 1 < B.length) (hsA : Stab.Sorted Fld.name A) (hsB : Stab.Sorted Fld.name B) (a m b : Nat) (ha : a = X.length) (hm : m = X.length + A.length) (hb : b = X.length + A.length + B.length) :
    Calls Try.prog 56 #[.slice (some ⟨blk, off, none⟩) d0.size cap, .int .i64 (a : Int), .int .i64 (m : Int), .int .i64 (b : Int), .func (.func 20) #[] #[]] (SW w blk off n (X ++ (A ++ (B ++ Y))).toArray os) fun e w' =>
      e = .returned (.tuple #[]) ∧ ∃ m os', w' = SW w blk off m (X ++ (fsort (A ++ B) ++ Y)).toArray os' := by
  have hma : ((m : Int) - (a : Int) == 1) = false := by
    rw [beq_eq_false_iff_ne]; omega
  have hbm : ((b : Int) - (m : Int) == 1) = false := by
    rw [beq_eq_false_iff_ne]; omega
  have hbd : b ≤ d0.size := by simp only [List.length_append] at hC; omega
  have hb6 : (b : Int) ≤ 1000000 := by omega
  have ham : (a : Int) + 1 < (m : Int) := by omega
  have hmb : (m : Int) + 1 < (b : Int) := by omega
  have hm6 : (m : Int) ≤ 1000000 := by omega
  have ha6 : (a : Int) ≤ 1000000 := by omega
  have mixed : Try.prog.follows .mixedOrders = true := by kernel_rfl
  have eg := enters_of Try.func20 (by kernel_rfl) rfl
  obtain ⟨mid, hmid⟩ : ∃ x, (a + b) / 2 = x := ⟨_, rfl⟩
  have hmidz : ((a : Int) + (b : Int)) / 2 = (mid : Int) := by omega
  have hmid1 : 2 * mid ≤ a + b ∧ a + b ≤ 2 * mid + 1 := by omega
  clear hmid
  have hds : (X ++ (A ++ (B ++ Y))).toArray.size = d0.size := hC
  generalize hD : (X ++ (A ++ (B ++ Y))).toArray = d at hds ⊢
  have HD := Lib.hid hD; clear hD
  -- what the search leaves, and where it leads
  have hafter : ∀ s : Nat, a ≤ s → s ≤ m → s ≤ mid → mid + m ≤ s + b → (s = a ∨ s + b = mid + m ∨ nlt d[mid + m - s]! d[s - 1]! = false) → (s = m ∨ s = mid ∨ nlt d[mid + m - 1 - s]! d[s]! = true) →
      ∃ e : Nat, (mid : Int) + (m : Int) - (s : Int) = (e : Int) ∧ m ≤ e ∧ e ≤ b ∧ mid ≤ e ∧ (∃ D1 D2 D3 : Array Fld, D3 = (X ++ (fsort (A ++ B) ++ Y)).toArray ∧
        Hid ((s < m ∧ m < e → ∀ (n' : Nat) (os' : Array Obj), Calls Try.prog 61 #[.slice (some ⟨blk, off, none⟩) d0.size cap, .int .i64 (s : Int), .int .i64 (m : Int), .int .i64 (e : Int), .func (.func 20) #[] #[]] (SW w blk off n' d os') fun r w' => r = .returned (.tuple #[]) ∧ ∃ n2 os2, w' = SW w blk off n2 D1 os2) ∧
          (¬ (s < m ∧ m < e) → d = D1)) ∧
        Hid ((a < s ∧ s < mid → ∀ (n' : Nat) (os' : Array Obj), Calls Try.prog 56 #[.slice (some ⟨blk, off, none⟩) d0.size cap, .int .i64 (a : Int), .int .i64 (s : Int), .int .i64 (mid : Int), .func (.func 20) #[] #[]] (SW w blk off n' D1 os') fun r w' => r = .returned (.tuple #[]) ∧ ∃ n2 os2, w' = SW w blk off n2 D2 os2) ∧
          (¬ (a < s ∧ s < mid) → D1 = D2)) ∧
        Hid ((mid < e ∧ e < b → ∀ (n' : Nat) (os' : Array Obj), Calls Try.prog 56 #[.slice (some ⟨blk, off, none⟩) d0.size cap, .int .i64 (mid : Int), .int .i64 (e : Int), .int .i64 (b : Int), .func (.func 20) #[] #[]] (SW w blk off n' D2 os') fun r w' => r = .returned (.tuple #[]) ∧ ∃ n2 os2, w' = SW w blk off n2 D3 os2) ∧
          (¬ (mid < e ∧ e < b) → D2 = D3))) := by
    intro s h1 h2 h3 h4 hl hr
    obtain ⟨sa, hsa⟩ : ∃ sa, s = a + sa := ⟨s - a, by omega⟩
    obtain ⟨tb, htb⟩ : ∃ tb, mid = s + tb := ⟨mid - s, by omega⟩
    have hsaA : sa ≤ A.length := by omega
    have htbB : tb ≤ B.length := by omega
    have hatA : ∀ q, q < A.length → d[a + q]! = A[q]! := fun q hq => by
      rw [← HD.out, ha, getElem!_pos _ _ (by simp; omega), getElem!_pos A q hq, List.getElem_toArray, List.getElem_append_right (by omega)]
      have e : X.length + q - X.length = q := by omega
      simp only [e]
      rw [List.getElem_append_left hq]
    have hatB : ∀ q, q < B.length → d[m + q]! = B[q]! := fun q hq => by
      rw [← HD.out, hm, getElem!_pos _ _ (by simp; omega), getElem!_pos B q hq, List.getElem_toArray, List.getElem_append_right (by omega), List.getElem_append_right (by omega)]
      have e : X.length + A.length + q - X.length - A.length = q := by omega
      simp only [e]
      rw [List.getElem_append_left hq]
    have hmh := merge_halves hsA hsB sa tb hsaA htbB (fun p1 p2 => by
        rcases hl with h | h | h
        · omega
        · omega
        · rw [show mid + m - s = m + tb by omega, hatB _ p2, show s - 1 = a + (sa - 1) by omega, hatA _ (by omega)] at h
          exact h) (fun p1 p2 => by
        rcases hr with h | h | h
        · omega
        · omega
        · rw [show mid + m - 1 - s = m + (tb - 1) by omega, hatB _ (by omega), hsa, hatA _ p2] at h
          exact h)
    obtain ⟨A1, hA1e⟩ : ∃ l, A.take sa = l := ⟨_, rfl⟩
    obtain ⟨A2, hA2e⟩ : ∃ l, A.drop sa = l := ⟨_, rfl⟩
    obtain ⟨B1, hB1e⟩ : ∃ l, B.take tb = l := ⟨_, rfl⟩
    obtain ⟨B2, hB2e⟩ : ∃ l, B.drop tb = l := ⟨_, rfl⟩
    have l1 : A1.length = sa := by rw [← hA1e, List.length_take]; omega
    have l2 : A2.length = A.length - sa := by rw [← hA2e, List.length_drop]
    have l3 : B1.length = tb := by rw [← hB1e, List.length_take]; omega
    have l4 : B2.length = B.length - tb := by rw [← hB2e, List.length_drop]
    have s1 : Stab.Sorted Fld.name A1 := by rw [← hA1e]; exact (sorted_sub hsA sa).1
    have s2 : Stab.Sorted Fld.name A2 := by rw [← hA2e]; exact (sorted_sub hsA sa).2
    have s3 : Stab.Sorted Fld.name B1 := by rw [← hB1e]; exact (sorted_sub hsB tb).1
    have s4 : Stab.Sorted Fld.name B2 := by rw [← hB2e]; exact (sorted_sub hsB tb).2
    have eA : A = A1 ++ A2 := by rw [← hA1e, ← hA2e, List.take_append_drop]
    have eB : B = B1 ++ B2 := by rw [← hB1e, ← hB2e, List.take_append_drop]
    rw [hA1e, hA2e, hB1e, hB2e] at hmh
    have lC := hC
    simp only [List.length_append] at lC
    refine ⟨m + tb, by omega, by omega, by omega, by omega, (X ++ (A1 ++ (B1 ++ (A2 ++ (B2 ++ Y))))).toArray, (X ++ (fsort (A1 ++ B1) ++ (A2 ++ (B2 ++ Y)))).toArray, _, rfl, ⟨fun hc n' os' => ?_, fun hc => ?_⟩, ⟨fun hc n' os' => ?_, fun hc => ?_⟩, ⟨fun hc n' os' => ?_, fun hc => ?_⟩⟩
    · have hr := rotate_at hH hblk hsz n' cap (X ++ (A ++ (B ++ Y))) os' hC s m (m + tb) (X ++ A1) A2 B1 (B2 ++ Y) (by rw [eA, eB]; simp only [List.append_assoc]) (by omega) (by omega) (by rw [List.length_append]; omega) (by rw [List.length_append]; omega) (by rw [List.length_append]; omega)
      rw [← HD.out]
      simp only [List.append_assoc] at hr
      exact hr
    · rw [← HD.out, eA, eB]
      rcases Nat.lt_or_ge s m with h | h
      · have : B1 = [] := List.eq_nil_of_length_eq_zero (by omega)
        rw [this]; simp
      · have : A2 = [] := List.eq_nil_of_length_eq_zero (by omega)
        rw [this]; simp
    · exact hIH X A1 B1 (A2 ++ (B2 ++ Y)) n' os' (by simp only [List.length_append]; omega) (by omega) (by omega) (by omega) s1 s3 a s mid (by omega) (by omega) (by omega)
    · rcases Nat.lt_or_ge a s with h | h
      · have : B1 = [] := List.eq_nil_of_length_eq_zero (by omega)
        rw [this]; simp only [List.append_nil, fsort_sorted s1, List.nil_append]
      · have : A1 = [] := List.eq_nil_of_length_eq_zero (by omega)
        rw [this]; simp only [List.nil_append, fsort_sorted s3]
    · have hi := hIH (X ++ fsort (A1 ++ B1)) A2 B2 Y n' os' (by simp only [List.length_append, fsort_len]; omega) (by omega) (by omega) (by omega) s2 s4 mid (m + tb) b (by simp only [List.length_append, fsort_len]; omega) (by simp only [List.length_append, fsort_len]; omega) (by simp only [List.length_append, fsort_len]; omega)
      rw [← hmh]
      simp only [List.append_assoc] at hi ⊢
      exact hi
    · rw [← hmh]
      rcases Nat.lt_or_ge mid (m + tb) with h | h
      · have : B2 = [] := List.eq_nil_of_length_eq_zero (by omega)
        rw [this]; simp only [List.append_nil, fsort_sorted s2, List.append_assoc, List.nil_append]
      · have : A2 = [] := List.eq_nil_of_length_eq_zero (by omega)
        rw [this]; simp only [List.nil_append, fsort_sorted s4, List.append_assoc]
  have HAF := Lib.hid hafter; clear hafter
  have HH : Hid (HoldsK Fld.cs 6 w blk off d0) := hH
  clear hH hIH hC hA1 hB1 hsA hsB HD ha hm hb
  obtain ⟨lo, hi, hlo, hhi⟩ : ∃ lo hi : Nat, (mid < m → lo + b = mid + m ∧ hi = mid) ∧ (¬ mid < m → lo = a ∧ hi = m) := by
    by_cases h : mid < m
    · exact ⟨mid + m - b, mid, fun _ => ⟨by omega, rfl⟩, fun h' => absurd h h'⟩
    · exact ⟨a, m, fun h' => absurd h' h, fun _ => ⟨rfl, rfl⟩⟩
  have hab : a + 2 ≤ m ∧ m + 2 ≤ b := by omega
  have hlh : a ≤ lo ∧ lo ≤ hi ∧ hi ≤ m ∧ hi ≤ mid ∧ mid + m ≤ lo + b ∧ (lo = a ∨ lo + b = mid + m) ∧ (hi = m ∨ hi = mid) ∧ mid ≤ b := by
    by_cases h : mid < m
    · have := hlo h; omega
    · have := hhi h; omega
  obtain ⟨W1, hW⟩ : ∃ W, SW w blk off n d os = W := ⟨_, rfl⟩
  rw [hW]
  have HW := Lib.hid hW; clear hW
  go_enter Try.func56, Try.ntmps56
  go_upto_if 140 with (fail)
  clear hma hbm
  go_cut [20, 21] (fun v20 v21 wc => v20 = .int .i64 (lo : Int) ∧ v21 = .int .i64 (hi : Int) ∧ wc = W1)
  case first =>
    by_cases hmm : mid < m
    · obtain ⟨hlo1, hhi1⟩ := hlo hmm
      have hmz : (mid : Int) < (m : Int) := by omega
      have hl : (mid : Int) + (m : Int) - (b : Int) = (lo : Int) := by omega
      clear hlo hhi hlh
      subst hhi1
      go_wp2_with fail
      go_meet
      case rel => exact ⟨rfl, rfl, rfl⟩
    · obtain ⟨hlo1, hhi1⟩ := hhi hmm
      have hmz : ¬ (mid : Int) < (m : Int) := by omega
      clear hlo hhi hlh
      subst hlo1; subst hhi1
      go_wp2_with fail
      go_meet
      case rel => exact ⟨rfl, rfl, rfl⟩
  case rest =>
    obtain ⟨rfl, rfl, rfl⟩ := hcut
    clear hlo hhi hmidz
    have hmd : (mid : Int) ≤ 1000000 := by omega
    have hpz : (0 : Int) ≤ (mid : Int) + (m : Int) - 1 := by omega
    go_wp2_with fail
    go_loopg [20, 21] (hi - lo) (fun g1 vs vr wr => ∃ (s r n' : Nat) (os' : Array Obj), vs = .int .i64 (s : Int) ∧ vr = .int .i64 (r : Int) ∧ lo ≤ s ∧ s ≤ r ∧ r ≤ hi ∧ r - s ≤ g1 ∧ Hid (s = lo ∨ nlt d[mid + m - s]! d[s - 1]! = false) ∧ Hid (r = hi ∨ nlt d[mid + m - 1 - r]! d[r]! = true) ∧ wr = SW w blk off n' d os')
    case atStart => exact ⟨lo, hi, n, os, rfl, rfl, Nat.le_refl _, hlh.2.1, Nat.le_refl _, Nat.le_refl _, Or.inl rfl, Or.inl rfl, HW.out.symm⟩
    case round =>
      obtain ⟨s, r, n', os', rfl, rfl, hls, hsr, hrh, hg1, HL, HR, rfl⟩ := hrel
      clear HW
      by_cases hlt : s < r
      · have hltz : (s : Int) < (r : Int) := by omega
        have hr6 : (r : Int) ≤ 1000000 := by omega
        obtain ⟨c, hc⟩ : ∃ c, (s + r) / 2 = c := ⟨_, rfl⟩
        have hcz : ((s : Int) + (r : Int)) / 2 = (c : Int) := by omega
        have hsc : s ≤ c := by omega
        have hcr : c < r := by omega
        obtain ⟨pc, hpc⟩ : ∃ pc, mid + m - 1 - c = pc := ⟨_, rfl⟩
        have wpc : IntKind.i64.wrap ((mid : Int) + (m : Int) - 1 - (c : Int)) = (pc : Int) := by rw [IntKind.wrap_i64]; omega
        have hcd : c < d0.size := by omega
        have hpd : pc < d0.size := by omega
        have hcs : (c : Int) < (d0.size : Int) := by omega
        have hps : (pc : Int) < (d0.size : Int) := by omega
        have lc := cmp_cells HH.out hblk n' d os' hds c hcd
        have lp := cmp_cells HH.out hblk n' d os' hds pc hpd
        have hcg := fun nn oo => closure_cmp d[pc]! d[c]! (grow ((SW w blk off n' d os').drewN nn) oo)
        have CLS : Hid (∀ nn oo, grow ((SW w blk off n' d os').drewN nn) oo = SW w blk off (n' + nn) d (os' ++ oo)) := fun nn oo => sortWorldK_grown_c Fld.cs 6 w blk off n' nn d os' oo
        obtain ⟨xc, hxc⟩ : ∃ y, d[c]! = y := ⟨_, rfl⟩
        obtain ⟨xp, hxp⟩ : ∃ y, d[pc]! = y := ⟨_, rfl⟩
        obtain ⟨cv, hcv⟩ : ∃ q, ncmp xp xc = q := ⟨_, rfl⟩
        have HX : Hid (d[pc]! = xp ∧ d[c]! = xc ∧ ncmp xp xc = cv ∧ mid + m - 1 - c = pc ∧ mid + m - (c + 1) = pc) := ⟨hxp, hxc, hcv, hpc, by omega⟩
        rw [hxc] at lc hcg
        rw [hxp] at lp hcg
        rw [hcv] at hcg
        clear hxc hxp hcv hpc hc
        obtain ⟨nc, vc⟩ := xc
        obtain ⟨np, vp⟩ := xp
        rw [Fld.v_eq, Fld.v_eq] at hcg
        dsimp only at lc lp
        generalize hwq : SW w blk off n' d os' = wq at lc lp hcg CLS ⊢
        have HWQ := Lib.hid hwq; clear hwq
        have HNUM := Lib.hid (And.intro hls (And.intro hsr (And.intro hrh (And.intro hg1 (And.intro hsc hcr)))))
        have HLH := Lib.hid hlh
        clear hlh hls hsr hrh hg1 hmid1 hab ham hmb
        by_cases hlv : cv < 0
        case' neg => have hn : (!decide (cv < 0)) = true := by rw [decide_eq_false hlv]; rfl
        case' pos => have hn : (!decide (cv < 0)) = false := by rw [decide_eq_true hlv]; rfl
        all_goals
          go_wp2_with fail
          go_quiet_grown (exact Calls.grown_of (hcg _ _))
          go_wp2_with fail
        · obtain ⟨hls, hsr, hrh, hg1, hsc, hcr⟩ := HNUM.out
          go_roundg (c - s)
          case measure => omega
          case rel => exact ⟨s, c, _, _, rfl, rfl, hls, hsc, by omega, Nat.le_refl _, HL, Or.inr (by rw [HX.out.2.2.2.1, HX.out.1, HX.out.2.1]; exact decide_eq_true (by rw [HX.out.2.2.1]; exact hlv)), CLS.out _ _⟩
        · obtain ⟨hls, hsr, hrh, hg1, hsc, hcr⟩ := HNUM.out
          go_roundg (r - (c + 1))
          case measure => omega
          case rel => exact ⟨c + 1, r, _, _, by go_num, rfl, by omega, by omega, hrh, Nat.le_refl _, Or.inr (by rw [HX.out.2.2.2.2, Nat.add_sub_cancel, HX.out.1, HX.out.2.1]; exact decide_eq_false (by rw [HX.out.2.2.1]; omega)), HR, CLS.out _ _⟩
      · obtain rfl : s = r := by omega
        have hltz : ¬ (s : Int) < (s : Int) := by omega
        obtain ⟨e, he, hme, heb, hmide, D1, D2, D3, hD3, H1, H2, H3⟩ := HAF.out s (by omega) (by omega) (by omega) (by omega) (by
          rcases HL.out with h | h
          · rcases hlh.2.2.2.2.2.1 with h' | h'
            · exact Or.inl (by omega)
            · exact Or.inr (Or.inl (by omega))
          · exact Or.inr (Or.inr h)) (by
          rcases HR.out with h | h
          · rcases hlh.2.2.2.2.2.2.1 with h' | h'
            · exact Or.inl (by omega)
            · exact Or.inr (Or.inl (by omega))
          · exact Or.inr (Or.inr h))
        have HD3 := Lib.hid hD3; clear hD3 HAF HL HR HH hds
        have hse : s + e = mid + m := by omega
        have hsa : a ≤ s ∧ s ≤ m ∧ s ≤ mid := by omega
        by_cases c1 : a < s <;> by_cases c2 : s < mid <;> by_cases c3 : s < m <;> by_cases c4 : e < b
        · have q1 : (a : Int) < (s : Int) := by omega
          have q2 : (s : Int) < (mid : Int) := by omega
          have q2e : (m : Int) < (e : Int) := by omega
          have q3 : (s : Int) < (m : Int) := by omega
          have q3e : (mid : Int) < (e : Int) := by omega
          have q4 : (e : Int) < (b : Int) := by omega
          have R1 := Lib.hid (H1.out.1 ⟨by omega, by omega⟩)
          have R2 := Lib.hid (H2.out.1 ⟨by omega, by omega⟩)
          have R3 := Lib.hid (H3.out.1 ⟨by omega, by omega⟩)
          clear H1 H2 H3 c1 c2 c3 c4
          go_wp2_with fail
          refine (R1.out n' os').mono ?_
          rintro r1 w1 ⟨rfl, n1, o1, rfl⟩
          go_wp2_with fail
          refine (R2.out n1 o1).mono ?_
          rintro r2 w2 ⟨rfl, n2, o2, rfl⟩
          go_wp2_with fail
          refine (R3.out n2 o2).mono ?_
          rintro r3 w3 ⟨rfl, n3, o3, rfl⟩
          go_wp2_with fail
          first | go_returns | go_end0
          exact ⟨rfl, n3, o3, by rw [HD3.out]⟩
        · have q1 : (a : Int) < (s : Int) := by omega
          have q2 : (s : Int) < (mid : Int) := by omega
          have q2e : (m : Int) < (e : Int) := by omega
          have q3 : (s : Int) < (m : Int) := by omega
          have q3e : (mid : Int) < (e : Int) := by omega
          have q4 : ¬ (e : Int) < (b : Int) := by omega
          have R1 := Lib.hid (H1.out.1 ⟨by omega, by omega⟩)
          have R2 := Lib.hid (H2.out.1 ⟨by omega, by omega⟩)
          obtain rfl := H3.out.2 (by omega)
          clear H1 H2 H3 c1 c2 c3 c4
          go_wp2_with fail
          refine (R1.out n' os').mono ?_
          rintro r1 w1 ⟨rfl, n1, o1, rfl⟩
          go_wp2_with fail
          refine (R2.out n1 o1).mono ?_
          rintro r2 w2 ⟨rfl, n2, o2, rfl⟩
          go_wp2_with fail
          first | go_returns | go_end0
          exact ⟨rfl, n2, o2, by rw [HD3.out]⟩
        · have q1 : (a : Int) < (s : Int) := by omega
          have q2 : (s : Int) < (mid : Int) := by omega
          have q2e : (m : Int) < (e : Int) := by omega
          have q3 : ¬ (s : Int) < (m : Int) := by omega
          have q3e : ¬ (mid : Int) < (e : Int) := by omega
          have q4 : (e : Int) < (b : Int) := by omega
          obtain rfl := H1.out.2 (by omega)
          have R2 := Lib.hid (H2.out.1 ⟨by omega, by omega⟩)
          obtain rfl := H3.out.2 (by omega)
          clear H1 H2 H3 c1 c2 c3 c4
          go_wp2_with fail
          refine (R2.out n' os').mono ?_
          rintro r1 w1 ⟨rfl, n1, o1, rfl⟩
          go_wp2_with fail
          first | go_returns | go_end0
          exact ⟨rfl, n1, o1, by rw [HD3.out]⟩
        · exfalso; omega
        · have q1 : (a : Int) < (s : Int) := by omega
          have q2 : ¬ (s : Int) < (mid : Int) := by omega
          have q2e : ¬ (m : Int) < (e : Int) := by omega
          have q3 : (s : Int) < (m : Int) := by omega
          have q3e : (mid : Int) < (e : Int) := by omega
          have q4 : (e : Int) < (b : Int) := by omega
          obtain rfl := H1.out.2 (by omega)
          obtain rfl := H2.out.2 (by omega)
          have R3 := Lib.hid (H3.out.1 ⟨by omega, by omega⟩)
          clear H1 H2 H3 c1 c2 c3 c4
          go_wp2_with fail
          refine (R3.out n' os').mono ?_
          rintro r1 w1 ⟨rfl, n1, o1, rfl⟩
          go_wp2_with fail
          first | go_returns | go_end0
          exact ⟨rfl, n1, o1, by rw [HD3.out]⟩
        · exfalso; omega
        · have q1 : (a : Int) < (s : Int) := by omega
          have q2 : ¬ (s : Int) < (mid : Int) := by omega
          have q2e : ¬ (m : Int) < (e : Int) := by omega
          have q3 : ¬ (s : Int) < (m : Int) := by omega
          have q3e : ¬ (mid : Int) < (e : Int) := by omega
          have q4 : (e : Int) < (b : Int) := by omega
          obtain rfl := H1.out.2 (by omega)
          obtain rfl := H2.out.2 (by omega)
          obtain rfl := H3.out.2 (by omega)
          clear H1 H2 H3 c1 c2 c3 c4
          go_wp2_with fail
          first | go_returns | go_end0
          exact ⟨rfl, n', os', by rw [HD3.out]⟩
        · exfalso; omega
        · have q1 : ¬ (a : Int) < (s : Int) := by omega
          have q2 : (s : Int) < (mid : Int) := by omega
          have q2e : (m : Int) < (e : Int) := by omega
          have q3 : (s : Int) < (m : Int) := by omega
          have q3e : (mid : Int) < (e : Int) := by omega
          have q4 : (e : Int) < (b : Int) := by omega
          have R1 := Lib.hid (H1.out.1 ⟨by omega, by omega⟩)
          obtain rfl := H2.out.2 (by omega)
          have R3 := Lib.hid (H3.out.1 ⟨by omega, by omega⟩)
          clear H1 H2 H3 c1 c2 c3 c4
          go_wp2_with fail
          refine (R1.out n' os').mono ?_
          rintro r1 w1 ⟨rfl, n1, o1, rfl⟩
          go_wp2_with fail
          refine (R3.out n1 o1).mono ?_
          rintro r2 w2 ⟨rfl, n2, o2, rfl⟩
          go_wp2_with fail
          first | go_returns | go_end0
          exact ⟨rfl, n2, o2, by rw [HD3.out]⟩
        · have q1 : ¬ (a : Int) < (s : Int) := by omega
          have q2 : (s : Int) < (mid : Int) := by omega
          have q2e : (m : Int) < (e : Int) := by omega
          have q3 : (s : Int) < (m : Int) := by omega
          have q3e : (mid : Int) < (e : Int) := by omega
          have q4 : ¬ (e : Int) < (b : Int) := by omega
          have R1 := Lib.hid (H1.out.1 ⟨by omega, by omega⟩)
          obtain rfl := H2.out.2 (by omega)
          obtain rfl := H3.out.2 (by omega)
          clear H1 H2 H3 c1 c2 c3 c4
          go_wp2_with fail
          refine (R1.out n' os').mono ?_
          rintro r1 w1 ⟨rfl, n1, o1, rfl⟩
          go_wp2_with fail
          first | go_returns | go_end0
          exact ⟨rfl, n1, o1, by rw [HD3.out]⟩
        · exfalso; omega
        · exfalso; omega
        · exfalso; omega
        · exfalso; omega
        · exfalso; omega
        · exfalso; omega
end Go.Proofs.Ytfppobnfajkmmaa

namespace Go.Proofs.Ytfppobnfajkmmaa
open Go.RowKit Go.Sort Go.Lib
set_option linter.unusedVariables false

theorem SymAt.less {w : World} {blk off : Nat} {d0 : Array Fld} {cap k j : Nat} (h : SymAt w blk off d0 cap k) (hj : j ≤ k) : SymAt w blk off d0 cap j :=
  fun X A B Y n os hC hA hB hk => h X A B Y n os hC hA hB (Nat.le_trans hk hj)
theorem one_of {l : List Fld} (h : l.length = 1) : ∃ x, l = [x] := by
  match l, h with
  | [x], _ => exact ⟨x, rfl⟩
theorem symAt_all {w : World} {blk off : Nat} {d0 : Array Fld} (hH : HoldsK Fld.cs 6 w blk off d0) (hblk : blk < w.heap.size) (hsz : d0.size < 1000000) (cap : Nat) : ∀ k, SymAt w blk off d0 cap k
  | 0 => fun X A B Y n os hC hA hB hk => by omega
  | k + 1 => fun X A B Y n os hC hA hB hk sA sB a m b ha hm hb => by
    rcases Nat.eq_or_lt_of_le (show 1 ≤ A.length from hA) with h1 | h1
    · obtain ⟨x, rfl⟩ := one_of h1.symm
      exact symL_any hH hblk hsz cap X B Y x n os hC hB sB a m b ha hm hb
    · rcases Nat.eq_or_lt_of_le (show 1 ≤ B.length from hB) with h2 | h2
      · obtain ⟨y, rfl⟩ := one_of h2.symm
        exact symR_any hH hblk hsz cap X A Y y n os hC h1 sA a m b ha hm hb
      · exact symG_any hH hblk hsz cap X A B Y n os ((symAt_all hH hblk hsz cap k).less (by omega)) hC h1 h2 sA sB a m b ha hm hb
theorem symOk : SymOk := fun A B blk off cap W hA hB sA sB hH hblk hsz => by
  have h := symAt_all hH hblk (by simpa using hsz) cap (A.length + B.length) [] A B [] 0 #[] (by simp) (List.length_pos_iff.2 hA) (List.length_pos_iff.2 hB) (Nat.le_refl _) sA sB 0 A.length (A.length + B.length) rfl (by simp) (by simp)
  have hW : SW W blk off 0 (A ++ B).toArray #[] = W := by
    unfold SW sortWorldK
    rw [grow_empty]
    exact putRowK_self Fld.cs 6 W blk off _ hH
  rw [List.nil_append, List.append_nil, hW, List.append_nil, List.nil_append] at h
  rw [List.length_append]
  have e : (A ++ B).toArray.size = A.length + B.length := by simp
  rw [e] at h
  exact h
end Go.Proofs.Ytfppobnfajkmmaa
