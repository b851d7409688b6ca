/- The contract of Text, of what is no instruction; what an instruction that may be gives; registerBit, addressBits. -/
import Derived.Test.YtdgejingoamfeaaDoorText
import Derived.Laws.ShiftsVarLaws
namespace Go.Proofs.YtdgejingoamfeaaDoor
open Go.ChangeShapes Go.WideShapes Go.ChangeAt Go.RowKit
set_option linter.unusedVariables false

set_option maxHeartbeats 2000000 in
theorem text_no (i : I) (w : World) (hw : Gl w) (hc : checkB i = false) :
    Calls Tryd.prog 9 #[i.val] w fun e w' => e = .returned (.tuple #[.string ⟨#[]⟩, .int .i64 30]) ∧ Below w.heap.size w w' := by
  have C0 : Hid (∀ v, Below w.heap.size w v → Calls Tryd.prog 12 #[i.val] v fun e w' => e = .returned (.int .i64 30) ∧ Below v.heap.size v w') := ⟨fun v hv => by have := check_any i v (hw.bel hv); rw [hc] at this; exact this⟩
  have L0 : Hid (∀ v, IA v w.heap.size i → (loadVar 25 ⟨w.heap.size, 0, none⟩).run Tryd.prog v = .ok i.val v) := ⟨fun v h => h.whole⟩
  unfold I.val at *
  clear hw hc
  go_enter Tryd.func9, Tryd.ntmps9
  go_wp2_with (first
    | (refine wpList_load_of (t := 25) rfl (by kernel_rfl) (by kernel_rfl) (L0.out _ (IA.new w i 25)) ?_)
    | (go_at_call 12; refine (C0.out _ (bel_alloc (Below.refl _ _) _)).mono ?_; rintro e w1 ⟨rfl, hb1⟩; have B1 : Hid (Below w.heap.size w w1) := ⟨bel_trans (bel_alloc (Below.refl _ _) _) hb1⟩; clear hb1))
  go_ret2
  exact ⟨rfl, B1.out⟩

theorem emp_size {s : ByteArray} (h : empB s = true) : s.size = 0 := by
  unfold empB at h
  rw [ByteArray.toList_eq, List.isEmpty_iff] at h
  show s.data.size = 0
  simpa using congrArg List.length h
theorem name_bound {s : ByteArray} (h : isNameB s = true) : s.size ≤ 255 := by
  unfold isNameB at h
  simp only [Bool.and_eq_true, decide_eq_true_eq] at h
  have := h.1.2
  simpa using this

theorem nameMay_bound {o : O} {mods : List Int} (h : nameMayB o mods = true) (hm : ∀ m ∈ mods, 0 ≤ m ∧ m ≤ 5) : (0 ≤ o.m ∧ o.m ≤ 5) ∧ o.nm.size ≤ 255 := by
  unfold nameMayB at h
  cases he : empB o.nm
  · rw [he, if_neg (by simp)] at h
    simp only [Bool.and_eq_true, List.contains_iff_mem] at h
    exact ⟨hm _ h.1, name_bound h.2⟩
  · rw [he, if_pos rfl] at h
    simp only [beq_iff_eq] at h
    have := emp_size he
    omega

theorem tok_of {o : O} (h : mayB o = true) (hn : i64 o.n) (hs : i64 o.s) : TOk o := by
  refine ⟨hn, hs, fun hk => ?_⟩
  unfold mayB at h
  rcases hk with hk | hk
  · simp only [hk] at h
    rw [if_neg (by decide), if_neg (by decide), if_neg (by decide), if_pos trivial] at h
    unfold memMayB at h
    split at h
    · simp only [Bool.and_eq_true] at h
      exact nameMay_bound h.1.1 (by decide)
    · split at h
      · simp only [Bool.and_eq_true] at h
        exact nameMay_bound h.1 (by decide)
      · simp only [Bool.and_eq_true] at h
        exact nameMay_bound h.1.1 (by decide)
  · simp only [hk] at h
    rw [if_neg (by decide), if_neg (by decide), if_neg (by decide), if_neg (by decide), if_pos trivial] at h
    unfold targetMayB at h
    simp only [Bool.and_eq_true] at h
    exact nameMay_bound h.2.1 (by decide)

theorem check_may {i : I} (h : checkB i = true) : mayB i.to = true ∧ mayB i.fr = true := by
  unfold checkB at h
  split at h
  · simp only [Bool.and_eq_true] at h
    exact ⟨h.2.1, h.2.2.1⟩
  · cases h

/-- All numbers of an instruction are ints. -/
structure I64 (i : I) : Prop where
  tn : i64 i.to.n
  ts : i64 i.to.s
  fn : i64 i.fr.n
  fs : i64 i.fr.s

theorem text_any (i : I) (w : World) (hw : Gp w) (h : I64 i) :
    Calls Tryd.prog 9 #[i.val] w fun e w' => e = .returned (.tuple #[.string (if checkB i then textV i else ⟨#[]⟩), .int .i64 (errV (checkB i))]) ∧ Below w.heap.size w w' := by
  cases hc : checkB i
  · exact text_no i w hw.g hc
  · have hm := check_may hc
    exact text_yes i w hw hc (tok_of hm.1 h.tn h.ts) (tok_of hm.2 h.fn h.fs) _ ⟨rfl⟩

theorem wrap_pow (m : Nat) (h : m ≤ 15) : wrap64 (2 ^ m) = 2 ^ (m : Int).toNat := by
  have : ∀ k : Fin 16, wrap64 (2 ^ k.val) = 2 ^ (k.val : Int).toNat := by decide +kernel
  exact this ⟨m, by omega⟩

/-- The registers' bits. -/
def bitV (r : Int) : Int := 2 ^ r.toNat
def regBitV (o : O) : Int := if o.k = 1 then bitV o.r else 0

theorem reg_in {o : O} (h : mayB o = true) (hk : o.k = 1) : 0 ≤ o.r ∧ o.r ≤ 15 := by
  unfold mayB at h
  simp only [hk] at h
  rw [if_neg (by decide), if_pos trivial] at h
  simp only [Bool.and_eq_true] at h
  exact (isReg_iff o.r).1 h.2

set_option maxHeartbeats 1000000 in
theorem regBit_any (o : O) (w : World) (h : o.k = 1 → 0 ≤ o.r ∧ o.r ≤ 15) :
    Calls Tryd.prog 47 #[o.val] w fun e w' => e = .returned (.int .i64 (regBitV o)) ∧ Below w.heap.size w w' := by
  by_cases hk : o.k = 1
  · have hr := h hk
    have HR : Hid (regBitV o = bitV o.r) := ⟨by unfold regBitV; rw [if_pos hk]⟩
    have hk' : (o.k != 1) = false := by simp [hk]
    unfold O.val
    clear h hk
    obtain ⟨m, hm⟩ := Int.eq_ofNat_of_zero_le hr.1
    have hm2 := hr.2
    rw [hm] at hm2 ⊢
    clear hr
    go_enter Tryd.func47, Tryd.ntmps47
    go_wp2
    go_ret
    exact ⟨ret_int (by rw [HR.out, hm]; exact wrap_pow m (by omega)), bel_alloc (Below.refl _ _) _⟩
  · have HR : Hid (regBitV o = 0) := ⟨by unfold regBitV; rw [if_neg hk]⟩
    have hk' : (o.k != 1) = true := by simp [hk]
    unfold O.val
    clear h hk
    go_enter Tryd.func47, Tryd.ntmps47
    go_wp2
    go_ret
    exact ⟨ret_int HR.out.symm, bel_alloc (Below.refl _ _) _⟩

def orV (a b : Int) : Int := bits .or .i64 a b
def addrBitsV (o : O) : Int := if o.k = 3 then (if 0 ≤ o.x then orV (if 0 ≤ o.b then orV 0 (bitV o.b) else 0) (bitV o.x) else (if 0 ≤ o.b then orV 0 (bitV o.b) else 0)) else 0

theorem mem_in {o : O} (h : mayB o = true) (hk : o.k = 3) : (-1 ≤ o.b ∧ o.b ≤ 15) ∧ (-1 ≤ o.x ∧ o.x ≤ 15) := by
  unfold mayB at h
  simp only [hk] at h
  rw [if_neg (by decide), if_neg (by decide), if_neg (by decide), if_pos trivial] at h
  unfold memMayB at h
  split at h
  · simp only [Bool.and_eq_true, O.same, beq_iff_eq] at h
    omega
  · split at h
    · simp only [Bool.and_eq_true, O.same, beq_iff_eq] at h
      omega
    · simp only [Bool.and_eq_true] at h
      have hb := (isReg_iff o.b).1 h.1.2.1
      have hx := h.1.2.2
      unfold indexMayB at hx
      split at hx
      · omega
      · simp only [Bool.and_eq_true] at hx
        have := (isReg_iff o.x).1 hx.1
        omega

set_option maxHeartbeats 2000000 in
theorem addrBits_any (o : O) (w : World) (h : o.k = 3 → (-1 ≤ o.b ∧ o.b ≤ 15) ∧ (-1 ≤ o.x ∧ o.x ≤ 15)) :
    Calls Tryd.prog 46 #[o.val] w fun e w' => e = .returned (.int .i64 (addrBitsV o)) ∧ Below w.heap.size w w' := by
  by_cases hk : o.k = 3
  · obtain ⟨hb, hx⟩ := h hk
    have HR : Hid (addrBitsV o = if 0 ≤ o.x then orV (if 0 ≤ o.b then orV 0 (bitV o.b) else 0) (bitV o.x) else (if 0 ≤ o.b then orV 0 (bitV o.b) else 0)) := ⟨by unfold addrBitsV; rw [if_pos hk]⟩
    have hk' : (o.k == 3) = true := by simp [hk]
    obtain ⟨b, hbb⟩ : ∃ b, o.b = b := ⟨_, rfl⟩
    obtain ⟨x, hxx⟩ : ∃ x, o.x = x := ⟨_, rfl⟩
    unfold O.val
    rw [hbb, hxx] at HR
    rw [hbb] at hb
    rw [hxx] at hx
    rw [hbb, hxx]
    clear h hk hbb hxx
    by_cases h1 : 0 ≤ b
    · obtain ⟨n, rfl⟩ := Int.eq_ofNat_of_zero_le h1
      have hb2 := hb.2
      clear hb
      by_cases h2 : 0 ≤ x
      · obtain ⟨m, rfl⟩ := Int.eq_ofNat_of_zero_le h2
        have hx2 := hx.2
        clear hx
        go_enter Tryd.func46, Tryd.ntmps46
        go_wp2
        go_ret
        exact ⟨ret_int (by rw [HR.out, if_pos h1, if_pos h2, wrap_pow n (by omega), wrap_pow m (by omega)]; rfl), bel_alloc (Below.refl _ _) _⟩
      · clear hx
        go_enter Tryd.func46, Tryd.ntmps46
        go_wp2
        go_ret
        exact ⟨ret_int (by rw [HR.out, if_neg (show ¬ 0 ≤ x by omega), if_pos h1, wrap_pow n (by omega)]; rfl), bel_alloc (Below.refl _ _) _⟩
    · clear hb
      by_cases h2 : 0 ≤ x
      · obtain ⟨m, rfl⟩ := Int.eq_ofNat_of_zero_le h2
        have hx2 := hx.2
        clear hx
        go_enter Tryd.func46, Tryd.ntmps46
        go_wp2
        go_ret
        exact ⟨ret_int (by rw [HR.out, if_pos h2, if_neg (show ¬ 0 ≤ b by omega), wrap_pow m (by omega)]; rfl), bel_alloc (Below.refl _ _) _⟩
      · clear hx
        go_enter Tryd.func46, Tryd.ntmps46
        go_wp2
        go_ret
        exact ⟨ret_int (by rw [HR.out, if_neg (show ¬ 0 ≤ x by omega), if_neg (show ¬ 0 ≤ b by omega)]), bel_alloc (Below.refl _ _) _⟩
  · have HR : Hid (addrBitsV o = 0) := ⟨by unfold addrBitsV; rw [if_neg hk]⟩
    have hk' : (o.k == 3) = false := by simp [hk]
    unfold O.val
    clear h hk
    go_enter Tryd.func46, Tryd.ntmps46
    go_wp2
    go_ret
    exact ⟨ret_int HR.out.symm, bel_alloc (Below.refl _ _) _⟩
end Go.Proofs.YtdgejingoamfeaaDoor
