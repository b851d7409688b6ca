/- The classes' answers are those of Uses and Sets. The document's Uses and Sets, for every instruction. The law FormsUses, walked. -/
import Derived.Test.YtdgejingoamfeaaDoorKnows
import Derived.Test.YtdgejingoamfeaaDoorRefBits
import Derived.Test.YtdgejingoamfeaaDoorCheckSame
import Derived.Test.YtdgejingoamfeaaDoorText
import Derived.Test.YtdgejingoamfeaaDoorOpenN
namespace Go.Proofs.YtdgejingoamfeaaDoor
open Go.ChangeShapes Go.WideShapes Go.ChangeAt Go.RowKit
set_option linter.unusedVariables false
set_option linter.unusedSimpArgs false

theorem orV_eq (x y : Int) : orV x y = (BitVec.ofInt 64 x ||| BitVec.ofInt 64 y).toInt := by
  show IntKind.i64.wrap (((BitVec.ofInt 64 x ||| BitVec.ofInt 64 y).toNat : Nat) : Int) = _
  have hl := (BitVec.ofInt 64 x ||| BitVec.ofInt 64 y).isLt
  generalize (BitVec.ofInt 64 x ||| BitVec.ofInt 64 y) = z at hl
  rw [IntKind.wrap_i64, BitVec.toInt_eq_toNat_cond]
  split <;> omega

theorem orV_assoc (x y z : Int) : orV (orV x y) z = orV x (orV y z) := by
  simp only [orV_eq, BitVec.ofInt_toInt, BitVec.or_assoc]
theorem orV_comm (x y : Int) : orV x y = orV y x := by
  simp only [orV_eq, BitVec.or_comm]

/-- A number of 64 bits. -/
def Fit (x : Int) : Prop := (BitVec.ofInt 64 x).toInt = x
theorem fit_or (x y : Int) : Fit (orV x y) := by unfold Fit; rw [orV_eq, BitVec.ofInt_toInt]
theorem fit_0 : Fit 0 := by unfold Fit; decide
theorem fit_bit (r : Int) (h0 : 0 ≤ r) (h1 : r ≤ 15) : Fit (bitV r) := by
  have : ∀ k : Fin 16, (BitVec.ofInt 64 (bitV (k.val : Int))).toInt = bitV (k.val : Int) := by decide +kernel
  have h := this ⟨r.toNat, by omega⟩
  have e : ((r.toNat : Nat) : Int) = r := by omega
  unfold Fit
  simp only [e] at h
  exact h
theorem or_0 {x : Int} (h : Fit x) : orV 0 x = x := by
  unfold Fit at h
  rw [orV_eq, show BitVec.ofInt 64 0 = 0#64 from rfl, BitVec.zero_or, h]
theorem or_0' {x : Int} (h : Fit x) : orV x 0 = x := by rw [orV_comm, or_0 h]

theorem fit_reg {o : O} (h : mayB o = true) : Fit (regBitV o) := by
  unfold regBitV
  by_cases e : o.k = 1
  · rw [if_pos e]; exact fit_bit _ (reg_in h e).1 (reg_in h e).2
  · rw [if_neg e]; exact fit_0
theorem addr_is {o : O} (h : mayB o = true) : addrBitsV o = insV o false := by
  unfold addrBitsV insV
  by_cases e3 : o.k = 3
  · have m := mem_in h e3
    rw [if_pos e3, if_neg (show ¬ o.k = 1 by omega), if_pos e3]
    by_cases b : 0 ≤ o.b
    · rw [if_pos b, if_pos b, or_0 (fit_bit _ b m.1.2)]
    · rw [if_neg b, if_neg b]
  · rw [if_neg e3, if_neg e3]
    by_cases e1 : o.k = 1
    · rw [if_pos e1]; rfl
    · rw [if_neg e1]
theorem fit_addr {o : O} (h : mayB o = true) : Fit (addrBitsV o) := by
  unfold addrBitsV
  split
  · split
    · exact fit_or _ _
    · split
      · exact fit_or _ _
      · exact fit_0
  · exact fit_0
theorem ins_true {o : O} (h : mayB o = true) : insV o true = orV (addrBitsV o) (regBitV o) := by
  by_cases e1 : o.k = 1
  · have a : addrBitsV o = 0 := by unfold addrBitsV; rw [if_neg (by omega)]
    have b : insV o true = regBitV o := by unfold insV regBitV; rw [if_pos e1, if_pos e1]; rfl
    rw [a, b, or_0 (fit_reg h)]
  · have a : regBitV o = 0 := by unfold regBitV; rw [if_neg e1]
    have b : insV o true = insV o false := by unfold insV; rw [if_neg e1, if_neg e1]
    rw [a, b, addr_is h, or_0' (by rw [← addr_is h]; exact fit_addr h)]

theorem mix4 (u a b c d : Int) : orV (orV (orV b c) (orV a d)) u = orV (orV (orV (orV u a) b) c) d := by
  simp only [orV_eq, BitVec.ofInt_toInt]
  congr 1
  ac_rfl
theorem mix3 (u a b c : Int) : orV (orV (orV b c) a) u = orV (orV (orV u a) b) c := by
  simp only [orV_eq, BitVec.ofInt_toInt]
  congr 1
  ac_rfl

/-- What Uses answers, where the first operand is read too | only filled. -/
theorem uses_full {i : I} (hc : checkB i = true) (u : Int) (hu : (rowL i.op).uses = u) (ht : (((rowL i.op).to != 1) || (i.sz == 1)) = true) :
    orV (orV (insV i.fr true) (insV i.to true)) u = usesV i := by
  have hm := check_may hc
  unfold usesV usesR
  rw [if_pos hc, if_pos ht, hu, ins_true hm.1, ins_true hm.2, mix4]
theorem uses_part {i : I} (hc : checkB i = true) (u : Int) (hu : (rowL i.op).uses = u) (ht : (((rowL i.op).to != 1) || (i.sz == 1)) = false) :
    orV (orV (insV i.fr true) (insV i.to false)) u = usesV i := by
  have hm := check_may hc
  unfold usesV usesR
  rw [if_pos hc, if_neg (by rw [ht]; decide), hu, ← addr_is hm.1, ins_true hm.2, mix3]
theorem uses_full0 {i : I} (hc : checkB i = true) (hu : (rowL i.op).uses = 0) (ht : (((rowL i.op).to != 1) || (i.sz == 1)) = true) :
    orV (insV i.fr true) (insV i.to true) = usesV i := by
  rw [← uses_full hc 0 hu ht, or_0' (fit_or _ _)]
theorem uses_part0 {i : I} (hc : checkB i = true) (hu : (rowL i.op).uses = 0) (ht : (((rowL i.op).to != 1) || (i.sz == 1)) = false) :
    orV (insV i.fr true) (insV i.to false) = usesV i := by
  rw [← uses_part hc 0 hu ht, or_0' (fit_or _ _)]
theorem or_197 (x : Int) : orV (orV (orV (orV x 1) 128) 64) 4 = orV x 197 := by
  rw [orV_assoc, orV_assoc, orV_assoc, show orV 1 (orV 128 (orV 64 4)) = 197 by decide +kernel]

/-- What a good form's row says. -/
theorem check_size {i : I} (h : checkB i = true) : sizeOk (rowL i.op) i.sz = true := by
  have ho := check_op h
  unfold checkB at h
  rw [if_pos ho] at h
  unfold hasB at h
  simp only [Bool.and_eq_true] at h
  exact h.1.2.2
theorem check_takes {i : I} (h : checkB i = true) : takesB (rowL i.op).f i.sz i.to i.fr = true := by
  have ho := check_op h
  unfold checkB at h
  rw [if_pos ho] at h
  simp only [Bool.and_eq_true] at h
  exact h.2.2.2.1
theorem size_not1 {i : I} (h : checkB i = true) (hs : (rowL i.op).sizes = 12 ∨ (rowL i.op).sizes = 8) : (i.sz == 1) = false := by
  have hz := check_size h
  unfold sizeOk at hz
  by_cases e : i.sz = 1
  · rw [e, if_neg (by decide)] at hz
    rcases hs with hs | hs <;> (rw [hs] at hz; exact absurd hz (by decide +kernel))
  · simp [e]
theorem bare_k {i : I} (h : checkB i = true) (hs : (rowL i.op).f = 82) : regBitV i.to = 0 := by
  have ht := check_takes h
  rw [hs] at ht
  have e : takesB 82 i.sz i.to i.fr = bareB i.to i.fr := rfl
  rw [e] at ht
  unfold bareB at ht
  simp only [Bool.and_eq_true, beq_iff_eq] at ht
  unfold regBitV
  rw [if_neg (by omega)]
theorem stored_k {i : I} (h : checkB i = true) (hs : (rowL i.op).f = 83) : i.fr.k = 1 := by
  have ht := check_takes h
  rw [hs] at ht
  have e : takesB 83 i.sz i.to i.fr = storedB i.to i.fr := rfl
  rw [e] at ht
  unfold storedB at ht
  simp only [Bool.and_eq_true, beq_iff_eq] at ht
  exact ht.2

theorem reg_is (o : O) : (if o.k == 1 then bitV o.r else 0) = regBitV o := by
  unfold regBitV
  by_cases e : o.k = 1
  · rw [if_pos e, if_pos (by simp [e])]
  · rw [if_neg e, if_neg (by simp [e])]

theorem sets_read {i : I} (hc : checkB i = true) (u : Int) (h31 : (i.op == 31) = false) (hu : (rowL i.op).sets = u) (ht : ((rowL i.op).to != 2) = false) : u = setsV i := by
  unfold setsV setsR
  rw [if_pos hc, h31, if_neg (by decide), ht, if_neg (by decide), hu]
theorem sets_full {i : I} (hc : checkB i = true) (u : Int) (h31 : (i.op == 31) = false) (hu : (rowL i.op).sets = u) (ht : ((rowL i.op).to != 2) = true) : orV (regBitV i.to) u = setsV i := by
  unfold setsV setsR
  rw [if_pos hc, h31, if_neg (by decide), ht, if_pos rfl, hu, orV_comm]
theorem sets_full0 {i : I} (hc : checkB i = true) (h31 : (i.op == 31) = false) (hu : (rowL i.op).sets = 0) (ht : ((rowL i.op).to != 2) = true) : regBitV i.to = setsV i := by
  rw [← sets_full hc 0 h31 hu ht, or_0' (fit_reg (check_may hc).1)]
theorem sets_bare {i : I} (hc : checkB i = true) (u : Int) (h31 : (i.op == 31) = false) (hu : (rowL i.op).sets = u) (ht : ((rowL i.op).to != 2) = true) (hf : Fit u) (hs : (rowL i.op).f = 82) : u = setsV i := by
  rw [← sets_full hc u h31 hu ht, bare_k hc hs, or_0 hf]
theorem sets_31 {i : I} (hc : checkB i = true) (h31 : (i.op == 31) = true) (hu : (rowL i.op).sets = 0) (ht : ((rowL i.op).to != 2) = true) : orV (regBitV i.to) (regBitV i.fr) = setsV i := by
  unfold setsV setsR
  rw [if_pos hc, h31, if_pos rfl, ht, if_pos rfl, hu, or_0 (fit_reg (check_may hc).1)]

set_option maxHeartbeats 2000000 in
theorem refUses_no (i : I) (w : World) (hn : NB i) (hc : checkB i = false) :
    Calls Tryd.prog 24 #[i.val] w fun e w' => e = .returned (.int .i64 0) ∧ Below w.heap.size w w' := by
  have C0 : Hid (∀ v, Calls Tryd.prog 13 #[i.val] v fun e w' => e = .returned (.int .i64 30) ∧ Below v.heap.size v w') := ⟨fun v => by have := refCheck_any i v hn; rw [check_same, hc] at this; exact this⟩
  have L0 : Hid (∀ v, IA v w.heap.size i → (loadVar 25 ⟨w.heap.size, 0, none⟩).run Tryd.prog v = .ok i.val v) := ⟨fun v h => h.whole⟩
  unfold I.val at *
  clear hn hc
  go_enter Tryd.func24, Tryd.ntmps24
  go_wp2_with (first
    | (refine wpList_load_of (t := 25) rfl (by kernel_rfl) (by kernel_rfl) (L0.out _ (IA.new w i 25)) ?_)
    | (go_at_call 13; refine (C0.out _).mono ?_; rintro e w1 ⟨rfl, hb1⟩; have B1 : Hid (Below w.heap.size w w1) := ⟨bel_trans (bel_alloc (Below.refl _ _) _) hb1⟩; clear hb1))
  go_ret
  exact ⟨rfl, B1.out⟩
set_option maxHeartbeats 2000000 in
theorem refSets_no (i : I) (w : World) (hn : NB i) (hc : checkB i = false) :
    Calls Tryd.prog 26 #[i.val] w fun e w' => e = .returned (.int .i64 0) ∧ Below w.heap.size w w' := by
  have C0 : Hid (∀ v, Calls Tryd.prog 13 #[i.val] v fun e w' => e = .returned (.int .i64 30) ∧ Below v.heap.size v w') := ⟨fun v => by have := refCheck_any i v hn; rw [check_same, hc] at this; exact this⟩
  have L0 : Hid (∀ v, IA v w.heap.size i → (loadVar 25 ⟨w.heap.size, 0, none⟩).run Tryd.prog v = .ok i.val v) := ⟨fun v h => h.whole⟩
  unfold I.val at *
  clear hn hc
  go_enter Tryd.func26, Tryd.ntmps26
  go_wp2_with (first
    | (refine wpList_load_of (t := 25) rfl (by kernel_rfl) (by kernel_rfl) (L0.out _ (IA.new w i 25)) ?_)
    | (go_at_call 13; refine (C0.out _).mono ?_; rintro e w1 ⟨rfl, hb1⟩; have B1 : Hid (Below w.heap.size w w1) := ⟨bel_trans (bel_alloc (Below.refl _ _) _) hb1⟩; clear hb1))
  go_ret
  exact ⟨rfl, B1.out⟩

theorem refUses_any (i : I) (w : World) (hn : NB i) :
    Calls Tryd.prog 24 #[i.val] w fun e w' => e = .returned (.int .i64 (usesV i)) ∧ Below w.heap.size w w' := by
  cases hc : checkB i
  · have e : usesV i = 0 := by unfold usesV; rw [if_neg (by rw [hc]; decide)]
    rw [e]; exact refUses_no i w hn hc
  have hm := check_may hc
  have ho := check_op hc
  have C0 : Hid (∀ v, Calls Tryd.prog 13 #[i.val] v fun e w' => e = .returned (.int .i64 0) ∧ Below v.heap.size v w') := ⟨fun v => by have := refCheck_any i v hn; rw [check_same, hc] at this; exact this⟩
  have C1 : Hid (∀ v, Calls Tryd.prog 48 #[i.fr.val, .bool true] v fun e w' => e = .returned (.int .i64 (insV i.fr true)) ∧ Below v.heap.size v w') := ⟨fun v => refInside_any i.fr true v (reg_in hm.2) (mem_in hm.2)⟩
  have C2 : ∀ t, Hid (∀ v, Calls Tryd.prog 48 #[i.to.val, .bool t] v fun e w' => e = .returned (.int .i64 (insV i.to t)) ∧ Below v.heap.size v w') := fun t => ⟨fun v => refInside_any i.to t v (reg_in hm.1) (mem_in hm.1)⟩
  by_cases a1 : i.op = 1
  · have V : orV (insV i.fr true) (insV i.to (i.sz == 1)) = usesV i := by
      cases hz : (i.sz == 1)
      · exact uses_part0 hc (by rw [a1]; rfl) (by rw [a1, hz]; rfl)
      · exact uses_full0 hc (by rw [a1]; rfl) (by rw [a1, hz]; rfl)
    rw [← V]
    exact refUses_1 i w _ _ (by rw [a1]; rfl) (by rw [a1]; rfl) (by rw [a1]; rfl) (by rw [a1]; rfl) (by rw [a1]; rfl) (by rw [a1]; rfl) (by rw [a1]; rfl) (by rw [a1]; rfl) (by rw [a1]; rfl) (by rw [a1]; rfl) (by rw [a1]; rfl) C0 C1 (C2 _)
  by_cases a2 : i.op = 2
  · have hz := size_not1 hc (Or.inl (by rw [a2]; rfl))
    rw [← uses_part0 hc (by rw [a2]; rfl) (by rw [a2, hz]; rfl)]
    exact refUses_2 i w _ _ (by rw [a2]; rfl) (by rw [a2]; rfl) (by rw [a2]; rfl) (by rw [a2]; rfl) (by rw [a2]; rfl) (by rw [a2]; rfl) (by rw [a2]; rfl) (by rw [a2]; rfl) (by rw [a2]; rfl) (by rw [a2]; rfl) (by rw [a2]; rfl) C0 C1 (C2 _)
  by_cases a29 : i.op = 29
  · have hz := size_not1 hc (Or.inl (by rw [a29]; rfl))
    rw [← uses_part0 hc (by rw [a29]; rfl) (by rw [a29, hz]; rfl)]
    exact refUses_29 i w _ _ (by rw [a29]; rfl) (by rw [a29]; rfl) (by rw [a29]; rfl) (by rw [a29]; rfl) (by rw [a29]; rfl) (by rw [a29]; rfl) (by rw [a29]; rfl) (by rw [a29]; rfl) (by rw [a29]; rfl) (by rw [a29]; rfl) (by rw [a29]; rfl) C0 C1 (C2 _)
  by_cases a30 : i.op = 30
  · have hz := size_not1 hc (Or.inl (by rw [a30]; rfl))
    rw [← uses_part0 hc (by rw [a30]; rfl) (by rw [a30, hz]; rfl)]
    exact refUses_30 i w _ _ (by rw [a30]; rfl) (by rw [a30]; rfl) (by rw [a30]; rfl) (by rw [a30]; rfl) (by rw [a30]; rfl) (by rw [a30]; rfl) (by rw [a30]; rfl) (by rw [a30]; rfl) (by rw [a30]; rfl) (by rw [a30]; rfl) (by rw [a30]; rfl) C0 C1 (C2 _)
  by_cases a21 : i.op = 21
  · have hz := size_not1 hc (Or.inr (by rw [a21]; rfl))
    rw [← uses_part hc 16 (by rw [a21]; rfl) (by rw [a21, hz]; rfl)]
    exact refUses_21 i w _ _ (by rw [a21]; rfl) (by rw [a21]; rfl) (by rw [a21]; rfl) (by rw [a21]; rfl) (by rw [a21]; rfl) (by rw [a21]; rfl) (by rw [a21]; rfl) (by rw [a21]; rfl) (by rw [a21]; rfl) (by rw [a21]; rfl) (by rw [a21]; rfl) C0 C1 (C2 _)
  by_cases a20 : i.op = 20
  · rw [← uses_full hc 16 (by rw [a20]; rfl) (by rw [a20]; rfl)]
    exact refUses_20 i w _ _ (by rw [a20]; rfl) (by rw [a20]; rfl) (by rw [a20]; rfl) (by rw [a20]; rfl) (by rw [a20]; rfl) (by rw [a20]; rfl) (by rw [a20]; rfl) (by rw [a20]; rfl) (by rw [a20]; rfl) (by rw [a20]; rfl) (by rw [a20]; rfl) C0 C1 (C2 _)
  by_cases a22 : i.op = 22
  · rw [← uses_full hc 16 (by rw [a22]; rfl) (by rw [a22]; rfl)]
    exact refUses_22 i w _ _ (by rw [a22]; rfl) (by rw [a22]; rfl) (by rw [a22]; rfl) (by rw [a22]; rfl) (by rw [a22]; rfl) (by rw [a22]; rfl) (by rw [a22]; rfl) (by rw [a22]; rfl) (by rw [a22]; rfl) (by rw [a22]; rfl) (by rw [a22]; rfl) C0 C1 (C2 _)
  by_cases a25 : i.op = 25
  · rw [← uses_full hc 16 (by rw [a25]; rfl) (by rw [a25]; rfl)]
    exact refUses_25 i w _ _ (by rw [a25]; rfl) (by rw [a25]; rfl) (by rw [a25]; rfl) (by rw [a25]; rfl) (by rw [a25]; rfl) (by rw [a25]; rfl) (by rw [a25]; rfl) (by rw [a25]; rfl) (by rw [a25]; rfl) (by rw [a25]; rfl) (by rw [a25]; rfl) C0 C1 (C2 _)
  by_cases a26 : i.op = 26
  · rw [← uses_full hc 32 (by rw [a26]; rfl) (by rw [a26]; rfl)]
    exact refUses_26 i w _ _ (by rw [a26]; rfl) (by rw [a26]; rfl) (by rw [a26]; rfl) (by rw [a26]; rfl) (by rw [a26]; rfl) (by rw [a26]; rfl) (by rw [a26]; rfl) (by rw [a26]; rfl) (by rw [a26]; rfl) (by rw [a26]; rfl) (by rw [a26]; rfl) C0 C1 (C2 _)
  by_cases a32 : i.op = 32
  · rw [← uses_full hc 1 (by rw [a32]; rfl) (by rw [a32]; rfl)]
    exact refUses_32 i w _ _ (by rw [a32]; rfl) (by rw [a32]; rfl) (by rw [a32]; rfl) (by rw [a32]; rfl) (by rw [a32]; rfl) (by rw [a32]; rfl) (by rw [a32]; rfl) (by rw [a32]; rfl) (by rw [a32]; rfl) (by rw [a32]; rfl) (by rw [a32]; rfl) C0 C1 (C2 _)
  by_cases a35 : i.op = 35
  · rw [← uses_full hc 197 (by rw [a35]; rfl) (by rw [a35]; rfl), ← or_197]
    exact refUses_35 i w _ _ (by rw [a35]; rfl) (by rw [a35]; rfl) (by rw [a35]; rfl) (by rw [a35]; rfl) (by rw [a35]; rfl) (by rw [a35]; rfl) (by rw [a35]; rfl) (by rw [a35]; rfl) (by rw [a35]; rfl) (by rw [a35]; rfl) (by rw [a35]; rfl) C0 C1 (C2 _)
  have V : (rowL i.op).uses = 0 ∧ ((rowL i.op).to != 1) = true := by
    rcases op_cases ho.1 ho.2 with h | h | h | h | h | h | h | h | h | h | h | h | h | h | h | h | h | h | h | h | h | h | h | h | h | h | h | h | h | h | h | h | h | h | h
    all_goals first | (exact absurd h (by assumption)) | (rw [h]; decide)
  rw [← uses_full0 hc V.1 (by rw [V.2]; rfl)]
  exact refUses_o i w _ _ (by simp [a1]) (by simp [a2]) (by simp [a29]) (by simp [a30]) (by simp [a21]) (by simp [a20]) (by simp [a22]) (by simp [a25]) (by simp [a26]) (by simp [a32]) (by simp [a35]) C0 C1 (C2 _)

theorem refSets_any (i : I) (w : World) (hn : NB i) :
    Calls Tryd.prog 26 #[i.val] w fun e w' => e = .returned (.int .i64 (setsV i)) ∧ Below w.heap.size w w' := by
  cases hc : checkB i
  · have e : setsV i = 0 := by unfold setsV; rw [if_neg (by rw [hc]; decide)]
    rw [e]; exact refSets_no i w hn hc
  have hm := check_may hc
  have ho := check_op hc
  have C0 : Hid (∀ v, Calls Tryd.prog 13 #[i.val] v fun e w' => e = .returned (.int .i64 0) ∧ Below v.heap.size v w') := ⟨fun v => by have := refCheck_any i v hn; rw [check_same, hc] at this; exact this⟩
  have C3 : Hid (i.to.k = 1 → ∀ v, Calls Tryd.prog 49 #[.int .i64 i.to.r] v fun e w' => e = .returned (.int .i64 (bitV i.to.r)) ∧ w' = v) := ⟨fun hk v => refBit_any i.to.r v (reg_in hm.1 hk)⟩
  by_cases a10 : i.op = 10
  · rw [← sets_read hc 0 (by rw [a10]; rfl) (by rw [a10]; rfl) (by rw [a10]; rfl)]
    exact refSets_10 i w _ (by rw [a10]; rfl) (by rw [a10]; rfl) (by rw [a10]; rfl) (by rw [a10]; rfl) (by rw [a10]; rfl) (by rw [a10]; rfl) (by rw [a10]; rfl) (by rw [a10]; rfl) (by rw [a10]; rfl) (by rw [a10]; rfl) (by rw [a10]; rfl) C0 C3
  by_cases a11 : i.op = 11
  · rw [← sets_read hc 0 (by rw [a11]; rfl) (by rw [a11]; rfl) (by rw [a11]; rfl)]
    exact refSets_11 i w _ (by rw [a11]; rfl) (by rw [a11]; rfl) (by rw [a11]; rfl) (by rw [a11]; rfl) (by rw [a11]; rfl) (by rw [a11]; rfl) (by rw [a11]; rfl) (by rw [a11]; rfl) (by rw [a11]; rfl) (by rw [a11]; rfl) (by rw [a11]; rfl) C0 C3
  by_cases a23 : i.op = 23
  · rw [← sets_read hc 0 (by rw [a23]; rfl) (by rw [a23]; rfl) (by rw [a23]; rfl)]
    exact refSets_23 i w _ (by rw [a23]; rfl) (by rw [a23]; rfl) (by rw [a23]; rfl) (by rw [a23]; rfl) (by rw [a23]; rfl) (by rw [a23]; rfl) (by rw [a23]; rfl) (by rw [a23]; rfl) (by rw [a23]; rfl) (by rw [a23]; rfl) (by rw [a23]; rfl) C0 C3
  by_cases a22 : i.op = 22
  · rw [← sets_read hc 16 (by rw [a22]; rfl) (by rw [a22]; rfl) (by rw [a22]; rfl)]
    exact refSets_22 i w _ (by rw [a22]; rfl) (by rw [a22]; rfl) (by rw [a22]; rfl) (by rw [a22]; rfl) (by rw [a22]; rfl) (by rw [a22]; rfl) (by rw [a22]; rfl) (by rw [a22]; rfl) (by rw [a22]; rfl) (by rw [a22]; rfl) (by rw [a22]; rfl) C0 C3
  by_cases a20 : i.op = 20
  · rw [← sets_full hc 16 (by rw [a20]; rfl) (by rw [a20]; rfl) (by rw [a20]; rfl), ← reg_is]
    exact refSets_20 i w _ (by rw [a20]; rfl) (by rw [a20]; rfl) (by rw [a20]; rfl) (by rw [a20]; rfl) (by rw [a20]; rfl) (by rw [a20]; rfl) (by rw [a20]; rfl) (by rw [a20]; rfl) (by rw [a20]; rfl) (by rw [a20]; rfl) (by rw [a20]; rfl) C0 C3
  by_cases a21 : i.op = 21
  · rw [← sets_full hc 16 (by rw [a21]; rfl) (by rw [a21]; rfl) (by rw [a21]; rfl), ← reg_is]
    exact refSets_21 i w _ (by rw [a21]; rfl) (by rw [a21]; rfl) (by rw [a21]; rfl) (by rw [a21]; rfl) (by rw [a21]; rfl) (by rw [a21]; rfl) (by rw [a21]; rfl) (by rw [a21]; rfl) (by rw [a21]; rfl) (by rw [a21]; rfl) (by rw [a21]; rfl) C0 C3
  by_cases a25 : i.op = 25
  · rw [← sets_full hc 16 (by rw [a25]; rfl) (by rw [a25]; rfl) (by rw [a25]; rfl), ← reg_is]
    exact refSets_25 i w _ (by rw [a25]; rfl) (by rw [a25]; rfl) (by rw [a25]; rfl) (by rw [a25]; rfl) (by rw [a25]; rfl) (by rw [a25]; rfl) (by rw [a25]; rfl) (by rw [a25]; rfl) (by rw [a25]; rfl) (by rw [a25]; rfl) (by rw [a25]; rfl) C0 C3
  by_cases a26 : i.op = 26
  · rw [← sets_bare hc (orV 16 32) (by rw [a26]; rfl) (by rw [a26]; decide +kernel) (by rw [a26]; rfl) (by unfold Fit; decide +kernel) (by rw [a26]; rfl)]
    exact refSets_26 i w (bitV i.to.r) (by rw [a26]; rfl) (by rw [a26]; rfl) (by rw [a26]; rfl) (by rw [a26]; rfl) (by rw [a26]; rfl) (by rw [a26]; rfl) (by rw [a26]; rfl) (by rw [a26]; rfl) (by rw [a26]; rfl) (by rw [a26]; rfl) (by rw [a26]; rfl) C0 C3
  by_cases a32 : i.op = 32
  · rw [← sets_bare hc 4 (by rw [a32]; rfl) (by rw [a32]; decide +kernel) (by rw [a32]; rfl) (by unfold Fit; decide +kernel) (by rw [a32]; rfl)]
    exact refSets_32 i w (bitV i.to.r) (by rw [a32]; rfl) (by rw [a32]; rfl) (by rw [a32]; rfl) (by rw [a32]; rfl) (by rw [a32]; rfl) (by rw [a32]; rfl) (by rw [a32]; rfl) (by rw [a32]; rfl) (by rw [a32]; rfl) (by rw [a32]; rfl) (by rw [a32]; rfl) C0 C3
  by_cases a31 : i.op = 31
  · have hk := stored_k hc (by rw [a31]; rfl)
    have hf : regBitV i.fr = bitV i.fr.r := by unfold regBitV; rw [if_pos hk]
    rw [← sets_31 hc (by rw [a31]; rfl) (by rw [a31]; rfl) (by rw [a31]; rfl), ← reg_is i.to, hf]
    exact refSets_31 i w _ _ (by rw [a31]; rfl) (by rw [a31]; rfl) (by rw [a31]; rfl) (by rw [a31]; rfl) (by rw [a31]; rfl) (by rw [a31]; rfl) (by rw [a31]; rfl) (by rw [a31]; rfl) (by rw [a31]; rfl) (by rw [a31]; rfl) (by rw [a31]; rfl) C0 C3 ⟨fun v => refBit_any i.fr.r v (reg_in hm.2 hk)⟩
  by_cases a35 : i.op = 35
  · rw [← sets_bare hc (orV (orV 1 2) 2048) (by rw [a35]; rfl) (by rw [a35]; decide +kernel) (by rw [a35]; rfl) (by unfold Fit; decide +kernel) (by rw [a35]; rfl)]
    exact refSets_35 i w (bitV i.to.r) (by rw [a35]; rfl) (by rw [a35]; rfl) (by rw [a35]; rfl) (by rw [a35]; rfl) (by rw [a35]; rfl) (by rw [a35]; rfl) (by rw [a35]; rfl) (by rw [a35]; rfl) (by rw [a35]; rfl) (by rw [a35]; rfl) (by rw [a35]; rfl) C0 C3
  have V : (rowL i.op).sets = 0 ∧ ((rowL i.op).to != 2) = true := by
    rcases op_cases ho.1 ho.2 with h | h | h | h | h | h | h | h | h | h | h | h | h | h | h | h | h | h | h | h | h | h | h | h | h | h | h | h | h | h | h | h | h | h | h
    all_goals first | (exact absurd h (by assumption)) | (rw [h]; decide)
  rw [← sets_full0 hc (by simp [a31]) V.1 V.2, ← reg_is]
  exact refSets_o i w _ (by simp [a10]) (by simp [a11]) (by simp [a23]) (by simp [a22]) (by simp [a20]) (by simp [a21]) (by simp [a25]) (by simp [a26]) (by simp [a32]) (by simp [a31]) (by simp [a35]) C0 C3

theorem mkW {w v : World} {i : I} (h : IA v w.heap.size i ∧ Gp v ∧ Below w.heap.size w v) : v.cell? ⟨w.heap.size, 0, none⟩ = some (.int .i64 i.op) ∧ v.cell? ⟨w.heap.size, 1, none⟩ = some (.int .i64 i.sz) ∧ v.cell? ⟨w.heap.size, 2, none⟩ = some (.int .i64 i.cd) ∧ v.cell? ⟨w.heap.size, 3, none⟩ = some (.int .i64 i.to.k) ∧ v.cell? ⟨w.heap.size, 4, none⟩ = some (.int .i64 i.to.r) ∧ v.cell? ⟨w.heap.size, 5, none⟩ = some (.int .i64 i.to.b) ∧ v.cell? ⟨w.heap.size, 6, none⟩ = some (.int .i64 i.to.x) ∧ v.cell? ⟨w.heap.size, 7, none⟩ = some (.int .i64 i.to.s) ∧ v.cell? ⟨w.heap.size, 8, none⟩ = some (.bool i.to.rip) ∧ v.cell? ⟨w.heap.size, 9, none⟩ = some (.bool i.to.fs) ∧ v.cell? ⟨w.heap.size, 10, none⟩ = some (.int .i64 i.to.n) ∧ v.cell? ⟨w.heap.size, 11, none⟩ = some (.string i.to.nm) ∧ v.cell? ⟨w.heap.size, 12, none⟩ = some (.int .i64 i.to.m) ∧ v.cell? ⟨w.heap.size, 13, none⟩ = some (.int .i64 i.fr.k) ∧ v.cell? ⟨w.heap.size, 14, none⟩ = some (.int .i64 i.fr.r) ∧ v.cell? ⟨w.heap.size, 15, none⟩ = some (.int .i64 i.fr.b) ∧ v.cell? ⟨w.heap.size, 16, none⟩ = some (.int .i64 i.fr.x) ∧ v.cell? ⟨w.heap.size, 17, none⟩ = some (.int .i64 i.fr.s) ∧ v.cell? ⟨w.heap.size, 18, none⟩ = some (.bool i.fr.rip) ∧ v.cell? ⟨w.heap.size, 19, none⟩ = some (.bool i.fr.fs) ∧ v.cell? ⟨w.heap.size, 20, none⟩ = some (.int .i64 i.fr.n) ∧ v.cell? ⟨w.heap.size, 21, none⟩ = some (.string i.fr.nm) ∧ v.cell? ⟨w.heap.size, 22, none⟩ = some (.int .i64 i.fr.m) ∧ v.cell? ⟨w.heap.size, 23, none⟩ = some (.bool i.sh) ∧ Hid (IA v w.heap.size i ∧ Gp v ∧ Below w.heap.size w v) :=
  ⟨h.1.c0, h.1.c1, h.1.c2, h.1.c3, h.1.c4, h.1.c5, h.1.c6, h.1.c7, h.1.c8, h.1.c9, h.1.c10, h.1.c11, h.1.c12, h.1.c13, h.1.c14, h.1.c15, h.1.c16, h.1.c17, h.1.c18, h.1.c19, h.1.c20, h.1.c21, h.1.c22, h.1.c23, ⟨h⟩⟩
theorem lastW {w v : World} {i : I} (h : v.cell? ⟨w.heap.size, 0, none⟩ = some (.int .i64 i.op) ∧ v.cell? ⟨w.heap.size, 1, none⟩ = some (.int .i64 i.sz) ∧ v.cell? ⟨w.heap.size, 2, none⟩ = some (.int .i64 i.cd) ∧ v.cell? ⟨w.heap.size, 3, none⟩ = some (.int .i64 i.to.k) ∧ v.cell? ⟨w.heap.size, 4, none⟩ = some (.int .i64 i.to.r) ∧ v.cell? ⟨w.heap.size, 5, none⟩ = some (.int .i64 i.to.b) ∧ v.cell? ⟨w.heap.size, 6, none⟩ = some (.int .i64 i.to.x) ∧ v.cell? ⟨w.heap.size, 7, none⟩ = some (.int .i64 i.to.s) ∧ v.cell? ⟨w.heap.size, 8, none⟩ = some (.bool i.to.rip) ∧ v.cell? ⟨w.heap.size, 9, none⟩ = some (.bool i.to.fs) ∧ v.cell? ⟨w.heap.size, 10, none⟩ = some (.int .i64 i.to.n) ∧ v.cell? ⟨w.heap.size, 11, none⟩ = some (.string i.to.nm) ∧ v.cell? ⟨w.heap.size, 12, none⟩ = some (.int .i64 i.to.m) ∧ v.cell? ⟨w.heap.size, 13, none⟩ = some (.int .i64 i.fr.k) ∧ v.cell? ⟨w.heap.size, 14, none⟩ = some (.int .i64 i.fr.r) ∧ v.cell? ⟨w.heap.size, 15, none⟩ = some (.int .i64 i.fr.b) ∧ v.cell? ⟨w.heap.size, 16, none⟩ = some (.int .i64 i.fr.x) ∧ v.cell? ⟨w.heap.size, 17, none⟩ = some (.int .i64 i.fr.s) ∧ v.cell? ⟨w.heap.size, 18, none⟩ = some (.bool i.fr.rip) ∧ v.cell? ⟨w.heap.size, 19, none⟩ = some (.bool i.fr.fs) ∧ v.cell? ⟨w.heap.size, 20, none⟩ = some (.int .i64 i.fr.n) ∧ v.cell? ⟨w.heap.size, 21, none⟩ = some (.string i.fr.nm) ∧ v.cell? ⟨w.heap.size, 22, none⟩ = some (.int .i64 i.fr.m) ∧ v.cell? ⟨w.heap.size, 23, none⟩ = some (.bool i.sh) ∧ Hid (IA v w.heap.size i ∧ Gp v ∧ Below w.heap.size w v)) : IA v w.heap.size i ∧ Gp v ∧ Below w.heap.size w v := h.2.2.2.2.2.2.2.2.2.2.2.2.2.2.2.2.2.2.2.2.2.2.2.2.out
theorem keepW {w v u : World} {i : I} (h : v.cell? ⟨w.heap.size, 0, none⟩ = some (.int .i64 i.op) ∧ v.cell? ⟨w.heap.size, 1, none⟩ = some (.int .i64 i.sz) ∧ v.cell? ⟨w.heap.size, 2, none⟩ = some (.int .i64 i.cd) ∧ v.cell? ⟨w.heap.size, 3, none⟩ = some (.int .i64 i.to.k) ∧ v.cell? ⟨w.heap.size, 4, none⟩ = some (.int .i64 i.to.r) ∧ v.cell? ⟨w.heap.size, 5, none⟩ = some (.int .i64 i.to.b) ∧ v.cell? ⟨w.heap.size, 6, none⟩ = some (.int .i64 i.to.x) ∧ v.cell? ⟨w.heap.size, 7, none⟩ = some (.int .i64 i.to.s) ∧ v.cell? ⟨w.heap.size, 8, none⟩ = some (.bool i.to.rip) ∧ v.cell? ⟨w.heap.size, 9, none⟩ = some (.bool i.to.fs) ∧ v.cell? ⟨w.heap.size, 10, none⟩ = some (.int .i64 i.to.n) ∧ v.cell? ⟨w.heap.size, 11, none⟩ = some (.string i.to.nm) ∧ v.cell? ⟨w.heap.size, 12, none⟩ = some (.int .i64 i.to.m) ∧ v.cell? ⟨w.heap.size, 13, none⟩ = some (.int .i64 i.fr.k) ∧ v.cell? ⟨w.heap.size, 14, none⟩ = some (.int .i64 i.fr.r) ∧ v.cell? ⟨w.heap.size, 15, none⟩ = some (.int .i64 i.fr.b) ∧ v.cell? ⟨w.heap.size, 16, none⟩ = some (.int .i64 i.fr.x) ∧ v.cell? ⟨w.heap.size, 17, none⟩ = some (.int .i64 i.fr.s) ∧ v.cell? ⟨w.heap.size, 18, none⟩ = some (.bool i.fr.rip) ∧ v.cell? ⟨w.heap.size, 19, none⟩ = some (.bool i.fr.fs) ∧ v.cell? ⟨w.heap.size, 20, none⟩ = some (.int .i64 i.fr.n) ∧ v.cell? ⟨w.heap.size, 21, none⟩ = some (.string i.fr.nm) ∧ v.cell? ⟨w.heap.size, 22, none⟩ = some (.int .i64 i.fr.m) ∧ v.cell? ⟨w.heap.size, 23, none⟩ = some (.bool i.sh) ∧ Hid (IA v w.heap.size i ∧ Gp v ∧ Below w.heap.size w v)) (hb : Below v.heap.size v u) : u.cell? ⟨w.heap.size, 0, none⟩ = some (.int .i64 i.op) ∧ u.cell? ⟨w.heap.size, 1, none⟩ = some (.int .i64 i.sz) ∧ u.cell? ⟨w.heap.size, 2, none⟩ = some (.int .i64 i.cd) ∧ u.cell? ⟨w.heap.size, 3, none⟩ = some (.int .i64 i.to.k) ∧ u.cell? ⟨w.heap.size, 4, none⟩ = some (.int .i64 i.to.r) ∧ u.cell? ⟨w.heap.size, 5, none⟩ = some (.int .i64 i.to.b) ∧ u.cell? ⟨w.heap.size, 6, none⟩ = some (.int .i64 i.to.x) ∧ u.cell? ⟨w.heap.size, 7, none⟩ = some (.int .i64 i.to.s) ∧ u.cell? ⟨w.heap.size, 8, none⟩ = some (.bool i.to.rip) ∧ u.cell? ⟨w.heap.size, 9, none⟩ = some (.bool i.to.fs) ∧ u.cell? ⟨w.heap.size, 10, none⟩ = some (.int .i64 i.to.n) ∧ u.cell? ⟨w.heap.size, 11, none⟩ = some (.string i.to.nm) ∧ u.cell? ⟨w.heap.size, 12, none⟩ = some (.int .i64 i.to.m) ∧ u.cell? ⟨w.heap.size, 13, none⟩ = some (.int .i64 i.fr.k) ∧ u.cell? ⟨w.heap.size, 14, none⟩ = some (.int .i64 i.fr.r) ∧ u.cell? ⟨w.heap.size, 15, none⟩ = some (.int .i64 i.fr.b) ∧ u.cell? ⟨w.heap.size, 16, none⟩ = some (.int .i64 i.fr.x) ∧ u.cell? ⟨w.heap.size, 17, none⟩ = some (.int .i64 i.fr.s) ∧ u.cell? ⟨w.heap.size, 18, none⟩ = some (.bool i.fr.rip) ∧ u.cell? ⟨w.heap.size, 19, none⟩ = some (.bool i.fr.fs) ∧ u.cell? ⟨w.heap.size, 20, none⟩ = some (.int .i64 i.fr.n) ∧ u.cell? ⟨w.heap.size, 21, none⟩ = some (.string i.fr.nm) ∧ u.cell? ⟨w.heap.size, 22, none⟩ = some (.int .i64 i.fr.m) ∧ u.cell? ⟨w.heap.size, 23, none⟩ = some (.bool i.sh) ∧ Hid (IA u w.heap.size i ∧ Gp u ∧ Below w.heap.size w u) :=
  mkW ⟨(lastW h).1.bel hb, (lastW h).2.1.bel hb, bel_trans (lastW h).2.2 hb⟩

set_option maxHeartbeats 4000000 in
set_option maxRecDepth 4000 in
theorem formsUses_walk (i : I) (w : World) (_ : I64 i) (hn : NB i) (hw : Gp w) :
    Calls Tryd.prog 5 #[i.val] w fun e w' => e = .returned (.bool true) ∧ Below w.heap.size w w' := by
  have C1 : Hid (∀ v, Gp v → Calls Tryd.prog 23 #[i.val] v fun e w' => e = .returned (.int .i64 (usesV i)) ∧ Below v.heap.size v w') := ⟨fun v hv => uses_any i v hv.g⟩
  have C2 : Hid (∀ v, Calls Tryd.prog 24 #[i.val] v fun e w' => e = .returned (.int .i64 (usesV i)) ∧ Below v.heap.size v w') := ⟨fun v => refUses_any i v hn⟩
  have C3 : Hid (∀ v, Gp v → Calls Tryd.prog 25 #[i.val] v fun e w' => e = .returned (.int .i64 (setsV i)) ∧ Below v.heap.size v w') := ⟨fun v hv => sets_any i v hv.g⟩
  have C4 : Hid (∀ v, Calls Tryd.prog 26 #[i.val] v fun e w' => e = .returned (.int .i64 (setsV i)) ∧ Below v.heap.size v w') := ⟨fun v => refSets_any i v hn⟩
  have C5 : Hid (∀ v, Gp v → Calls Tryd.prog 14 #[] v fun e w' => e = .returned (.bool true) ∧ Below v.heap.size v w') := ⟨fun v hv => knows_any v hv⟩
  have L0 : Hid (∀ v, IA v w.heap.size i → (loadVar 25 ⟨w.heap.size, 0, none⟩).run Tryd.prog v = .ok i.val v) := ⟨fun v h => h.whole⟩
  have HW : Hid (Gp w) := ⟨hw⟩
  generalize usesV i = u at *
  generalize setsV i = s at *
  obtain ⟨eu, heu⟩ : ∃ b, (u == u) = b := ⟨_, rfl⟩
  obtain ⟨es, hes⟩ : ∃ b, (s == s) = b := ⟨_, rfl⟩
  obtain rfl : eu = true := by rw [← heu]; simp
  obtain rfl : es = true := by rw [← hes]; simp
  unfold I.val at *
  clear hw hn
  go_enter Tryd.func5, Tryd.ntmps5
  go_wp2
  have HA : Hid (IA (w.alloc (.cells #[.int .i64 i.op, .int .i64 i.sz, .int .i64 i.cd, .int .i64 i.to.k, .int .i64 i.to.r, .int .i64 i.to.b, .int .i64 i.to.x, .int .i64 i.to.s, .bool i.to.rip, .bool i.to.fs, .int .i64 i.to.n, .string i.to.nm, .int .i64 i.to.m, .int .i64 i.fr.k, .int .i64 i.fr.r, .int .i64 i.fr.b, .int .i64 i.fr.x, .int .i64 i.fr.s, .bool i.fr.rip, .bool i.fr.fs, .int .i64 i.fr.n, .string i.fr.nm, .int .i64 i.fr.m, .bool i.sh] 25)).drew w.heap.size i ∧ Gp (w.alloc (.cells #[.int .i64 i.op, .int .i64 i.sz, .int .i64 i.cd, .int .i64 i.to.k, .int .i64 i.to.r, .int .i64 i.to.b, .int .i64 i.to.x, .int .i64 i.to.s, .bool i.to.rip, .bool i.to.fs, .int .i64 i.to.n, .string i.to.nm, .int .i64 i.to.m, .int .i64 i.fr.k, .int .i64 i.fr.r, .int .i64 i.fr.b, .int .i64 i.fr.x, .int .i64 i.fr.s, .bool i.fr.rip, .bool i.fr.fs, .int .i64 i.fr.n, .string i.fr.nm, .int .i64 i.fr.m, .bool i.sh] 25)).drew ∧ Below w.heap.size w (w.alloc (.cells #[.int .i64 i.op, .int .i64 i.sz, .int .i64 i.cd, .int .i64 i.to.k, .int .i64 i.to.r, .int .i64 i.to.b, .int .i64 i.to.x, .int .i64 i.to.s, .bool i.to.rip, .bool i.to.fs, .int .i64 i.to.n, .string i.to.nm, .int .i64 i.to.m, .int .i64 i.fr.k, .int .i64 i.fr.r, .int .i64 i.fr.b, .int .i64 i.fr.x, .int .i64 i.fr.s, .bool i.fr.rip, .bool i.fr.fs, .int .i64 i.fr.n, .string i.fr.nm, .int .i64 i.fr.m, .bool i.sh] 25)).drew) := ⟨(IA.new w i 25).bel (bel_drew _), HW.out.bel ((bel_alloc (Below.refl _ _) _).drew), (bel_alloc (Below.refl _ _) _).drew⟩
  refine wp_region_held_drew (S := fun v => IA v w.heap.size i ∧ Gp v ∧ Below w.heap.size w v) (by kernel_rfl) HA.out (fun hHeld => ?_)
  refine wpAnyH_take (i := 0) rfl (by kernel_rfl) (by kernel_rfl) (by kernel_rfl) (fun _ _ _ h => h) (yields_load (t := 25) (p := ⟨w.heap.size, 0, none⟩) rfl (by kernel_rfl) (by kernel_rfl) (fun v h => L0.out v h.1)) hHeld ?_
  refine wpAnyH_take (i := 2) rfl (by kernel_rfl) (by kernel_rfl) (by kernel_rfl) (fun _ _ _ h => h) (yields_load (t := 25) (p := ⟨w.heap.size, 0, none⟩) rfl (by kernel_rfl) (by kernel_rfl) (fun v h => L0.out v h.1)) hHeld ?_
  refine wpAnyH_ready (rs := [1]) (by kernel_rfl) (by simp) ?_
  refine AllReadyH.cons rfl (fun K hK => ?_) AllReadyH.nil
  rw [if_pos (by kernel_rfl)]
  refine wp_of_enter (f := 23) (by kernel_rfl) (C1.out _ hHeld.2.1) ?_
  rintro e w1 ⟨rfl, hb1⟩
  refine ⟨_, rfl, hK.out _ _ ⟨hHeld.1.bel hb1, hHeld.2.1.bel hb1, bel_trans hHeld.2.2 hb1⟩ (fun h1 => ?_)⟩
  clear hK
  refine wpAnyH_ready (rs := [3]) (by kernel_rfl) (by simp) ?_
  refine AllReadyH.cons rfl (fun K hK => ?_) AllReadyH.nil
  rw [if_pos (by kernel_rfl)]
  refine wp_of_enter (f := 24) (by kernel_rfl) (C2.out _) ?_
  rintro e w2 ⟨rfl, hb2⟩
  refine ⟨_, rfl, hK.out _ _ ⟨h1.1.bel hb2, h1.2.1.bel hb2, bel_trans h1.2.2 hb2⟩ (fun h2 => ?_)⟩
  clear hK
  refine wpAnyH_take (i := 4) (v := .bool (u == u)) rfl (by kernel_rfl) (by kernel_rfl) (by kernel_rfl) (fun _ _ _ h => h) (Or.inl ⟨by kernel_rfl, fun v _ => by kernel_rfl⟩) h2 ?_
  rw [heu]
  refine wpAnyH_take (i := 5) (v := .bool true) rfl (by kernel_rfl) (by kernel_rfl) (by kernel_rfl) (fun _ _ _ h => h) (Or.inl ⟨by kernel_rfl, fun v _ => by kernel_rfl⟩) h2 ?_
  refine wpAnyH_take (i := 6) rfl (by kernel_rfl) (by kernel_rfl) (by kernel_rfl) (fun _ _ _ h => h) (yields_load (t := 25) (p := ⟨w.heap.size, 0, none⟩) rfl (by kernel_rfl) (by kernel_rfl) (fun v h => L0.out v h.1)) h2 ?_
  refine wpAnyH_take (i := 8) rfl (by kernel_rfl) (by kernel_rfl) (by kernel_rfl) (fun _ _ _ h => h) (yields_load (t := 25) (p := ⟨w.heap.size, 0, none⟩) rfl (by kernel_rfl) (by kernel_rfl) (fun v h => L0.out v h.1)) h2 ?_
  refine wpAnyH_ready (rs := [7]) (by kernel_rfl) (by simp) ?_
  refine AllReadyH.cons rfl (fun K hK => ?_) AllReadyH.nil
  rw [if_pos (by kernel_rfl)]
  refine wp_of_enter (f := 25) (by kernel_rfl) (C3.out _ h2.2.1) ?_
  rintro e w3 ⟨rfl, hb3⟩
  refine ⟨_, rfl, hK.out _ _ ⟨h2.1.bel hb3, h2.2.1.bel hb3, bel_trans h2.2.2 hb3⟩ (fun h3 => ?_)⟩
  clear hK
  refine wpAnyH_ready (rs := [9]) (by kernel_rfl) (by simp) ?_
  refine AllReadyH.cons rfl (fun K hK => ?_) AllReadyH.nil
  rw [if_pos (by kernel_rfl)]
  refine wp_of_enter (f := 26) (by kernel_rfl) (C4.out _) ?_
  rintro e w4 ⟨rfl, hb4⟩
  refine ⟨_, rfl, hK.out _ _ ⟨h3.1.bel hb4, h3.2.1.bel hb4, bel_trans h3.2.2 hb4⟩ (fun h4 => ?_)⟩
  clear hK
  refine wpAnyH_take (i := 10) (v := .bool (s == s)) rfl (by kernel_rfl) (by kernel_rfl) (by kernel_rfl) (fun _ _ _ h => h) (Or.inl ⟨by kernel_rfl, fun v _ => by kernel_rfl⟩) h4 ?_
  rw [hes]
  refine wpAnyH_take (i := 11) (v := .bool true) rfl (by kernel_rfl) (by kernel_rfl) (by kernel_rfl) (fun _ _ _ h => h) (Or.inl ⟨by kernel_rfl, fun v _ => by kernel_rfl⟩) h4 ?_
  refine wpAnyH_take (i := 12) (v := .bool true) rfl (by kernel_rfl) (by kernel_rfl) (by kernel_rfl) (fun _ _ _ h => h) (Or.inl ⟨by kernel_rfl, fun v _ => by kernel_rfl⟩) h4 ?_
  refine wpAnyH_ready (rs := [13]) (by kernel_rfl) (by simp) ?_
  refine AllReadyH.cons rfl (fun K hK => ?_) AllReadyH.nil
  rw [if_pos (by kernel_rfl)]
  refine wp_of_enter (f := 14) (by kernel_rfl) (C5.out _ h4.2.1) ?_
  rintro e w5 ⟨rfl, hb5⟩
  refine ⟨_, rfl, hK.out _ _ ⟨h4.1.bel hb5, h4.2.1.bel hb5, bel_trans h4.2.2 hb5⟩ (fun h5 => ?_)⟩
  clear hK
  refine wpAnyH_take (i := 14) (v := .bool true) rfl (by kernel_rfl) (by kernel_rfl) (by kernel_rfl) (fun _ _ _ h => h) (Or.inl ⟨by kernel_rfl, fun v _ => by kernel_rfl⟩) h5 ?_
  refine wpAnyH_take (i := 15) (v := .bool true) rfl (by kernel_rfl) (by kernel_rfl) (by kernel_rfl) (fun _ _ _ h => h) (Or.inl ⟨by kernel_rfl, fun v _ => by kernel_rfl⟩) h5 ?_
  refine wpAnyH_done (by kernel_rfl) ?_ _
  simp only [Act.put, List.getElem_toArray, List.getElem_cons_succ, List.getElem_cons_zero, List.setIfInBounds_toArray, List.set_cons_zero, List.set_cons_succ]
  have HX := hid h5
  clear h5 h4 h3 h2 h1 hHeld hb1 hb2 hb3 hb4 hb5
  go_wp2
  go_ret
  exact ⟨rfl, HX.out.2.2⟩
end Go.Proofs.YtdgejingoamfeaaDoor
