/- The contracts of operandText, fromText and toText. -/
import Derived.Test.YtdgejingoamfeaaDoorDisp
namespace Go.Proofs.YtdgejingoamfeaaDoor
open Go.ChangeShapes Go.WideShapes Go.ChangeAt Go.RowKit
set_option linter.unusedVariables false

theorem memText_any (o : O) (w : World) (hn : i64 o.n) (hi : i64 o.s) (hm : 0 ≤ o.m ∧ o.m ≤ 5) (hs : o.nm.size ≤ 255) (hw : Gp w) :
    Calls Tryd.prog 70 #[o.val] w fun e w' => e = .returned (.string (memV o)) ∧ Below w.heap.size w w' := by
  by_cases h : o.fs = true ∨ o.rip = true ∨ o.x < 0
  · exact memText_short o w hn hm hs hw h
  · have h1 : o.fs = false := by cases e : o.fs; rfl; exact absurd (.inl e) h
    have h2 : o.rip = false := by cases e : o.rip; rfl; exact absurd (.inr (.inl e)) h
    exact memText_long o w hn hi hm hs hw h1 h2 (fun e => h (.inr (.inr e)))

/-- An operand that can be written. -/
structure TOk (o : O) : Prop where
  n : i64 o.n
  s : i64 o.s
  m : o.k = 3 ∨ o.k = 4 → (0 ≤ o.m ∧ o.m ≤ 5) ∧ o.nm.size ≤ 255

def opdV (o : O) (z : Int) : ByteArray :=
  if o.k = 1 then ⟨#[37]⟩ ++ regV o.r z else if o.k = 2 then ⟨#[36]⟩ ++ itoaS o.n else if o.k = 3 then memV o else if o.k = 4 then targetV o else ⟨#[]⟩

theorem memV_size (o : O) (h : TOk o) (hk : o.k = 3) : (memV o).size ≤ 400 := by
  have h1 := dispV_size o h.n (h.m (.inl hk)).2
  have h2 := baseV_size o
  have h3 := regV_size o.x 8
  have h4 := itoa_size o.s h.s
  have k1 : (⟨#[40]⟩ : ByteArray).size = 1 := rfl
  have k2 : (⟨#[44, 37]⟩ : ByteArray).size = 2 := rfl
  have k3 : (⟨#[44]⟩ : ByteArray).size = 1 := rfl
  have k4 : (⟨#[41]⟩ : ByteArray).size = 1 := rfl
  have k5 : (⟨#[37, 102, 115, 58]⟩ : ByteArray).size = 4 := rfl
  have k6 : (⟨#[40, 37, 114, 105, 112, 41]⟩ : ByteArray).size = 6 := rfl
  unfold memV
  split
  · simp only [ByteArray.size_append]; omega
  · split
    · simp only [ByteArray.size_append]; omega
    · split
      · simp only [ByteArray.size_append]; omega
      · simp only [ByteArray.size_append]; omega
theorem opdV_size (o : O) (z : Int) (h : TOk o) : (opdV o z).size ≤ 400 := by
  have h1 := regV_size o.r z
  have h2 := itoa_size o.n h.n
  have h3 := signV_size o.n h.n
  have h4 := modV_size o.m
  have k1 : (⟨#[37]⟩ : ByteArray).size = 1 := rfl
  have k2 : (⟨#[36]⟩ : ByteArray).size = 1 := rfl
  have k3 : (⟨#[]⟩ : ByteArray).size = 0 := rfl
  have k4 : (⟨#[46]⟩ : ByteArray).size = 1 := rfl
  unfold opdV
  by_cases e1 : o.k = 1
  · rw [if_pos e1, ByteArray.size_append]; omega
  · rw [if_neg e1]
    by_cases e2 : o.k = 2
    · rw [if_pos e2, ByteArray.size_append]; omega
    · rw [if_neg e2]
      by_cases e3 : o.k = 3
      · rw [if_pos e3]; exact memV_size o h e3
      · rw [if_neg e3]
        by_cases e4 : o.k = 4
        · rw [if_pos e4]
          have h5 := (h.m (.inr e4)).2
          unfold targetV; split
          · rw [ByteArray.size_append]; omega
          · rw [ByteArray.size_append]; omega
        · rw [if_neg e4]; omega

set_option maxHeartbeats 2000000 in
theorem opdText_any (o : O) (z : Int) (w : World) (h : TOk o) (hw : Gp w) :
    Calls Tryd.prog 50 #[o.val, .int .i64 z] w fun e w' => e = .returned (.string (opdV o z)) ∧ Below w.heap.size w w' := by
  have HG : Hid (∀ v, Below w.heap.size w v → Calls Tryd.prog 21 #[.int .i64 o.r, .int .i64 z] v fun e w' => e = .returned (.string (regV o.r z)) ∧ Below v.heap.size v w') := ⟨fun v hv => register_any o.r z v (hw.g.bel hv)⟩
  have HI : Hid (∀ v, Below w.heap.size w v → Calls Tryd.prog 69 #[.int .i64 o.n] v fun e w' => e = .returned (.string (itoaS o.n)) ∧ Below v.heap.size v w') := ⟨fun v hv => itoa_any o.n v h.n.1 h.n.2 (hw.bel hv)⟩
  have h1 := regV_size o.r z
  have h2 := itoa_size o.n h.n
  by_cases e1 : o.k = 1
  · have HR : Hid (opdV o z = ⟨#[37]⟩ ++ regV o.r z) := ⟨by unfold opdV; rw [if_pos e1]⟩
    have e1' : (o.k == 1) = true := by simp [e1]
    generalize regV o.r z = g at *
    unfold O.val
    clear h hw e1
    go_enter Tryd.func50, Tryd.ntmps50
    go_wp2_with (go_at_call 21; refine (HG.out _ (bel_alloc (Below.refl _ _) _)).mono ?_; rintro e w1 ⟨rfl, hb⟩)
    go_ret
    exact ⟨ret_str HR.out.symm, bel_trans (bel_alloc (Below.refl _ _) _) hb⟩
  · have e1' : (o.k == 1) = false := by simp [e1]
    by_cases e2 : o.k = 2
    · have HR : Hid (opdV o z = ⟨#[36]⟩ ++ itoaS o.n) := ⟨by unfold opdV; rw [if_neg e1, if_pos e2]⟩
      have e2' : (o.k == 2) = true := by simp [e2]
      generalize itoaS o.n = g at *
      unfold O.val
      clear h hw e1 e2
      go_enter Tryd.func50, Tryd.ntmps50
      go_wp2_with (go_at_call 69; refine (HI.out _ (bel_alloc (Below.refl _ _) _)).mono ?_; rintro e w1 ⟨rfl, hb⟩)
      go_ret
      exact ⟨ret_str HR.out.symm, bel_trans (bel_alloc (Below.refl _ _) _) hb⟩
    · have e2' : (o.k == 2) = false := by simp [e2]
      by_cases e3 : o.k = 3
      · have HR : Hid (opdV o z = memV o) := ⟨by unfold opdV; rw [if_neg e1, if_neg e2, if_pos e3]⟩
        have e3' : (o.k == 3) = true := by simp [e3]
        have HM : Hid (∀ v, Below w.heap.size w v → Calls Tryd.prog 70 #[.agg #[.int .i64 o.k, .int .i64 o.r, .int .i64 o.b, .int .i64 o.x, .int .i64 o.s, .bool o.rip, .bool o.fs, .int .i64 o.n, .string o.nm, .int .i64 o.m]] v fun e w' => e = .returned (.string (memV o)) ∧ Below v.heap.size v w') := ⟨fun v hv => memText_any o v h.n h.s (h.m (.inl e3)).1 (h.m (.inl e3)).2 (hw.bel hv)⟩
        unfold O.val
        clear h hw e1 e2 e3
        go_enter Tryd.func50, Tryd.ntmps50
        go_wp2_with (go_at_call 70; refine (HM.out _ (bel_alloc (Below.refl _ _) _)).mono ?_; rintro e w1 ⟨rfl, hb⟩)
        go_ret
        exact ⟨ret_str HR.out.symm, bel_trans (bel_alloc (Below.refl _ _) _) hb⟩
      · have e3' : (o.k == 3) = false := by simp [e3]
        by_cases e4 : o.k = 4
        · have HR : Hid (opdV o z = targetV o) := ⟨by unfold opdV; rw [if_neg e1, if_neg e2, if_neg e3, if_pos e4]⟩
          have e4' : (o.k == 4) = true := by simp [e4]
          have HM : Hid (∀ v, Below w.heap.size w v → Calls Tryd.prog 71 #[.agg #[.int .i64 o.k, .int .i64 o.r, .int .i64 o.b, .int .i64 o.x, .int .i64 o.s, .bool o.rip, .bool o.fs, .int .i64 o.n, .string o.nm, .int .i64 o.m]] v fun e w' => e = .returned (.string (targetV o)) ∧ Below v.heap.size v w') := ⟨fun v hv => targetText_any o v h.n (h.m (.inr e4)).1 (h.m (.inr e4)).2 (hw.bel hv)⟩
          unfold O.val
          clear h hw e1 e2 e3 e4
          go_enter Tryd.func50, Tryd.ntmps50
          go_wp2_with (go_at_call 71; refine (HM.out _ (bel_alloc (Below.refl _ _) _)).mono ?_; rintro e w1 ⟨rfl, hb⟩)
          go_ret
          exact ⟨ret_str HR.out.symm, bel_trans (bel_alloc (Below.refl _ _) _) hb⟩
        · have HR : Hid (opdV o z = ⟨#[]⟩) := ⟨by unfold opdV; rw [if_neg e1, if_neg e2, if_neg e3, if_neg e4]⟩
          have e4' : (o.k == 4) = false := by simp [e4]
          unfold O.val
          clear h hw e1 e2 e3 e4
          go_enter Tryd.func50, Tryd.ntmps50
          go_wp2
          go_ret
          exact ⟨ret_str HR.out.symm, bel_alloc (Below.refl _ _) _⟩

/-- Does the op read a byte? -/
def byteOp (op : Int) : Bool := op == 29 || (op == 30 || (op == 17 || (op == 18 || op == 19)))
def fromV (i : I) : ByteArray := opdV i.fr (if byteOp i.op then 1 else i.sz)

set_option maxHeartbeats 2000000 in
theorem fromText_any (i : I) (w : World) (h : TOk i.fr) (hw : Gp w) :
    Calls Tryd.prog 27 #[i.val] w fun e w' => e = .returned (.string (fromV i)) ∧ Below w.heap.size w w' := by
  have HO : Hid (∀ z v, Below w.heap.size w v → Calls Tryd.prog 50 #[.agg #[.int .i64 i.fr.k, .int .i64 i.fr.r, .int .i64 i.fr.b, .int .i64 i.fr.x, .int .i64 i.fr.s, .bool i.fr.rip, .bool i.fr.fs, .int .i64 i.fr.n, .string i.fr.nm, .int .i64 i.fr.m], .int .i64 z] v fun e w' => e = .returned (.string (opdV i.fr z)) ∧ Below v.heap.size v w') := ⟨fun z v hv => opdText_any i.fr z v h (hw.bel hv)⟩
  obtain ⟨a, ha⟩ : ∃ x, (i.op == 29) = x := ⟨_, rfl⟩
  obtain ⟨b, hb⟩ : ∃ x, (i.op == 30) = x := ⟨_, rfl⟩
  obtain ⟨c, hc⟩ : ∃ x, (i.op == 17) = x := ⟨_, rfl⟩
  obtain ⟨d, hd⟩ : ∃ x, (i.op == 18) = x := ⟨_, rfl⟩
  obtain ⟨g, hg⟩ : ∃ x, (i.op == 19) = x := ⟨_, rfl⟩
  have HR : Hid (fromV i = opdV i.fr (if a || (b || (c || (d || g))) then 1 else i.sz)) := ⟨by unfold fromV byteOp; rw [ha, hb, hc, hd, hg]⟩
  unfold I.val
  clear h hw
  rcases a with _ | _
  case' false => rcases b with _ | _
  case' false.false => rcases c with _ | _
  case' false.false.false => rcases d with _ | _
  case' false.false.false.false => rcases g with _ | _
  all_goals
    go_enter Tryd.func27, Tryd.ntmps27
    go_wp2_with (go_at_call 50; refine (HO.out _ _ (bel_alloc (Below.refl _ _) _)).mono ?_; rintro e w1 ⟨rfl, hb1⟩)
    go_ret
    exact ⟨ret_str HR.out.symm, bel_trans (bel_alloc (Below.refl _ _) _) hb1⟩

def toV (i : I) : ByteArray := if (i.op == 22 || i.op == 23) && isPlaceB i.to then ⟨#[42]⟩ ++ opdV i.to i.sz else opdV i.to i.sz

set_option maxHeartbeats 2000000 in
theorem toText_any (i : I) (w : World) (h : TOk i.to) (hw : Gp w) :
    Calls Tryd.prog 28 #[i.val] w fun e w' => e = .returned (.string (toV i)) ∧ Below w.heap.size w w' := by
  have HO : Hid (∀ z v, Below w.heap.size w v → Calls Tryd.prog 50 #[.agg #[.int .i64 i.to.k, .int .i64 i.to.r, .int .i64 i.to.b, .int .i64 i.to.x, .int .i64 i.to.s, .bool i.to.rip, .bool i.to.fs, .int .i64 i.to.n, .string i.to.nm, .int .i64 i.to.m], .int .i64 z] v fun e w' => e = .returned (.string (opdV i.to z)) ∧ Below v.heap.size v w') := ⟨fun z v hv => opdText_any i.to z v h (hw.bel hv)⟩
  obtain ⟨a, ha⟩ : ∃ x, (i.op == 22) = x := ⟨_, rfl⟩
  obtain ⟨b, hb⟩ : ∃ x, (i.op == 23) = x := ⟨_, rfl⟩
  obtain ⟨c, hc⟩ : ∃ x, isPlaceB i.to = x := ⟨_, rfl⟩
  have HP : Hid (∀ v, Calls Tryd.prog 51 #[.agg #[.int .i64 i.to.k, .int .i64 i.to.r, .int .i64 i.to.b, .int .i64 i.to.x, .int .i64 i.to.s, .bool i.to.rip, .bool i.to.fs, .int .i64 i.to.n, .string i.to.nm, .int .i64 i.to.m]] v fun e w' => e = .returned (.bool c) ∧ Below v.heap.size v w') := ⟨fun v => hc ▸ isPlace_any i.to v⟩
  have HR : Hid (toV i = if (a || b) && c then ⟨#[42]⟩ ++ opdV i.to i.sz else opdV i.to i.sz) := ⟨by unfold toV; rw [ha, hb, hc]⟩
  have hs := opdV_size i.to i.sz h
  generalize hq : opdV i.to i.sz = q at *
  have HO' : Hid (∀ v, Below w.heap.size w v → Calls Tryd.prog 50 #[.agg #[.int .i64 i.to.k, .int .i64 i.to.r, .int .i64 i.to.b, .int .i64 i.to.x, .int .i64 i.to.s, .bool i.to.rip, .bool i.to.fs, .int .i64 i.to.n, .string i.to.nm, .int .i64 i.to.m], .int .i64 i.sz] v fun e w' => e = .returned (.string q) ∧ Below v.heap.size v w') := ⟨fun v hv => hq ▸ HO.out i.sz v hv⟩
  unfold I.val
  clear h hw hc hq HO
  rcases a with _ | _
  case' false => rcases b with _ | _
  case' false.true => rcases c with _ | _
  case' true => rcases c with _ | _
  all_goals
    go_enter Tryd.func28, Tryd.ntmps28
    go_wp2_with (first
      | (go_at_call 50; refine (HO'.out _ (bel_alloc (Below.refl _ _) _)).mono ?_; rintro e w1 ⟨rfl, hb1⟩; have B1 : Hid (Below w.heap.size w w1) := ⟨bel_trans (bel_alloc (Below.refl _ _) _) hb1⟩; obtain ⟨p0, p1, p2, p3, p4, p5, p6, p7, p8, p9, p10, p11, p12, p13, p14, p15, p16, p17, p18, p19, p20, p21, p22, p23⟩ := (IA.new w i 25).bel hb1; clear hb1)
      | (go_at_call 51; refine (HP.out _).mono ?_; rintro e w2 ⟨rfl, hb2⟩; have B2 : Hid (Below w.heap.size w w2) := ⟨bel_trans B1.out hb2⟩; clear hb2))
    go_ret
    exact ⟨ret_str HR.out.symm, by first | exact B2.out | exact B1.out⟩
end Go.Proofs.YtdgejingoamfeaaDoor
