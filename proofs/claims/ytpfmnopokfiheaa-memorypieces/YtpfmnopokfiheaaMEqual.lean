/- The contracts of maps.EqualFunc and Same. -/
import Derived.Test.YtpfmnopokfiheaaMSame
namespace Go.Proofs.Ytpfmnopokfiheaa
open Go.ChangeShapes Go.WideShapes Go.ChangeAt Go.RowKit Go.Maps
set_option linter.unusedVariables false
set_option linter.unusedSimpArgs false

theorem look72_ok {w : World} {gb n : Nat} {D : DataW Value} {pl : Nat → Nat} {L : List Pz} (h : w.ownsMap Try.prog 30 RV gb n D) (hI : Inv D pl L) {k : Nat} (hk : k < 18446744073709551616) :
    (Instr.lookup 60 (.map (some gb)) (.int .u64 (k : Int)) true).run Try.prog w = .ok (.tuple #[pgV (fnd L k) (pl k), .bool (fnd L k).isSome]) w := by
  obtain ⟨v, ps, hrun, hv⟩ := h.look_ok law30 Try.underlying60 (zero72 w) (zd := .held (.pointer none)) (zp := []) rfl (key30 hk)
  rw [hI.at' k] at hv
  rw [hrun, held_inj hv rfl, hI.has]

/-- A page that is in both. -/
def Mt (L' : List Pz) (p : Pz) : Prop := ∃ q, fnd L' p.k = some q ∧ p.may = q.may ∧ p.B = q.B
theorem pz_eq {p q : Pz} (h1 : p.k = q.k) (h2 : p.may = q.may) (h3 : p.B = q.B) : p = q := by cases p; cases q; simp_all
theorem sub_len : ∀ (B A : List Pz), A.Pairwise (fun p q => p.k < q.k) → B.Pairwise (fun p q => p.k < q.k) → (∀ p ∈ A, p ∈ B) → A.length ≤ B.length
  | [], A, _, _, hs => by
    cases A with
    | nil => simp
    | cons a A => exact absurd (hs a (by simp)) (by simp)
  | b :: B, [], _, _, _ => by simp
  | b :: B, a :: A, hA, hB, hs => by
    obtain ⟨a1, a2⟩ := List.pairwise_cons.1 hA
    obtain ⟨b1, b2⟩ := List.pairwise_cons.1 hB
    by_cases e : a = b
    · subst e
      have := sub_len B A a2 b2 (fun p hp => by
        rcases List.mem_cons.1 (hs p (by simp [hp])) with rfl | h
        · have := a1 p hp; omega
        · exact h)
      simp
      omega
    · have haB : a ∈ B := by
        rcases List.mem_cons.1 (hs a (by simp)) with e3 | h4
        · exact absurd e3 e
        · exact h4
      have hall : ∀ p ∈ a :: A, p ∈ B := fun p hp => by
        rcases List.mem_cons.1 (hs p hp) with rfl | h
        · rcases List.mem_cons.1 hp with e2 | h2
          · exact absurd e2.symm e
          · have h3 := a1 p h2
            have := b1 a haB
            omega
        · exact h
      have := sub_len B (a :: A) hA b2 hall
      simp at this ⊢
      omega
theorem same_iff {L L' : List Pz} (h : L.Pairwise (fun p q => p.k < q.k)) (h' : L'.Pairwise (fun p q => p.k < q.k)) : L = L' ↔ L.length = L'.length ∧ ∀ p ∈ L, Mt L' p := by
  constructor
  · rintro rfl
    exact ⟨rfl, fun p hp => ⟨p, mem_fnd h hp, rfl, rfl⟩⟩
  · rintro ⟨hl, hm⟩
    have hsub : ∀ p ∈ L, p ∈ L' := fun p hp => by
      obtain ⟨q, hq, h2, h3⟩ := hm p hp
      obtain ⟨h4, h5⟩ := fnd_mem hq
      rw [pz_eq h5.symm h2 h3]
      exact h4
    have key : ∀ (A B : List Pz), A.Pairwise (fun p q => p.k < q.k) → B.Pairwise (fun p q => p.k < q.k) → A.length = B.length → (∀ p ∈ A, p ∈ B) → A = B := by
      intro A
      induction A with
      | nil =>
        intro B _ _ hl _
        exact (List.eq_nil_of_length_eq_zero hl.symm).symm
      | cons a A ih =>
        intro B hA hB hl hs
        obtain ⟨a1, a2⟩ := List.pairwise_cons.1 hA
        cases B with
        | nil => simp at hl
        | cons b B =>
          obtain ⟨b1, b2⟩ := List.pairwise_cons.1 hB
          by_cases e : a = b
          · subst e
            have := ih B a2 b2 (by simpa using hl) (fun p hp => by
              rcases List.mem_cons.1 (hs p (by simp [hp])) with rfl | h
              · have := a1 p hp; omega
              · exact h)
            rw [this]
          · exfalso
            have haB : a ∈ B := by
              rcases List.mem_cons.1 (hs a (by simp)) with e3 | h4
              · exact absurd e3 e
              · exact h4
            have hall : ∀ p ∈ a :: A, p ∈ B := fun p hp => by
              rcases List.mem_cons.1 (hs p hp) with rfl | h
              · rcases List.mem_cons.1 hp with e2 | h2
                · exact absurd e2.symm e
                · have h3 := a1 p h2
                  have := b1 a haB
                  omega
              · exact h
            have := sub_len B (a :: A) hA b2 hall
            simp at this hl
            omega
    exact key L L' h h' hl hsub

theorem equal_len (gb gb' : Nat) (pl pl' : Nat → Nat) (L L' : List Pz) (mb mb' : Nat) (w : World) (h : MA w mb gb pl L) (h' : MA w mb' gb' pl' L') (hl : L.length ≠ L'.length) (fv : Value) :
    Calls Try.prog 41 #[.map (some gb), .map (some gb'), fv] w fun e w' => e = .returned (.bool false) ∧ w' = w := by
  obtain ⟨D, hD, hI⟩ := h.own
  obtain ⟨D', hD', hI'⟩ := h'.own
  have l1 := fun ty => hD.len Try.underlying60 ty
  have l2 := fun ty => hD'.len Try.underlying60 ty
  rw [hI.size] at l1
  rw [hI'.size] at l2
  have q1 : (((L.length : Nat) : Int) == ((L'.length : Nat) : Int)) = false := by simp; omega
  generalize L.length = a at *
  generalize L'.length = b at *
  clear h h' hD hD' hI hI' hl
  go_enter Try.func41, Try.ntmps41
  go_wp2
  go_ret
  exact ⟨rfl, rfl⟩

set_option maxRecDepth 20000 in
theorem equal_rest (gb gb' : Nat) (pl pl' : Nat → Nat) (L L' : List Pz) (mb mb' : Nat) (w : World) (h : MA w mb gb pl L) (h' : MA w mb' gb' pl' L') (hl : L.length = L'.length) :
    Calls Try.prog 41 #[.map (some gb), .map (some gb'), .func (.func 42) #[] #[]] w fun e w' => ∃ b, e = .returned (.bool b) ∧ (b = true ↔ L = L') ∧ Below w.heap.size w w' := by
  obtain ⟨D, hD, hI⟩ := h.own
  obtain ⟨D', hD', hI'⟩ := h'.own
  have l1 := fun ty => hD.len Try.underlying60 ty
  have l2 := fun ty => hD'.len Try.underlying60 ty
  rw [hI.size] at l1
  rw [hI'.size, ← hl] at l2
  have q1 : (((L.length : Nat) : Int) == ((L.length : Nat) : Int)) = true := by simp
  have HD : Hid _ := ⟨hD⟩
  have HI : Hid _ := ⟨hI⟩
  have HI' : Hid _ := ⟨hI'⟩
  have HD' : Hid _ := ⟨hD'⟩
  have HM : Hid _ := ⟨h⟩
  have HM' : Hid _ := ⟨h'⟩
  have Hl : Hid _ := ⟨hl⟩
  have hsame := same_iff h.mz.up h'.mz.up
  have HSm : Hid _ := ⟨hsame⟩
  generalize hn : L.length = n at *
  clear h h' hD hD' hI hI' hl hsame
  go_enter Try.func41, Try.ntmps41
  go_wp2_with (refine wpList_range_own _ rfl _ 60 rfl 30 72 law30 Try.underlying60 RV gb n D rfl HD.out ?_; intro w1 hr1 hg1 hs1)
  simp only [Act.put, List.getElem_toArray, List.getElem_cons_succ, List.getElem_cons_zero, List.setIfInBounds_toArray, List.set_cons_zero, List.set_cons_succ]
  have HB1 : Hid (Below w.heap.size w w1) := ⟨⟨hg1.os, hg1.tape, hg1.output, hg1.size, fun k hk => hg1.block k hk (by simp)⟩⟩
  clear l1 l2
  go_loopw [] (fun wr => ∃ (left : Lit → Bool) (cnt : Nat), Hid (wr.ranges Try.prog 30 RV gb w.heap.size n D left cnt ∧ (∀ l, left l = true → Maps.has D l = true) ∧ (∀ p ∈ L, left (kl p.k) = false → Mt L' p) ∧ Below w.heap.size w wr))
    (fun wr => wr.rangeLeft gb w.heap.size)
  case atStart =>
    refine ⟨Maps.has D, Maps.size D, ⟨hr1, fun _ h => h, fun p hp he => ?_, HB1.out⟩⟩
    rw [HI.out.has, mem_fnd HM.out.mz.up hp] at he
    cases he
  case round =>
    obtain ⟨left, cnt, HR⟩ := hrel
    obtain ⟨hr, hall, hvis, hB⟩ := HR.out
    go_wp2_with (refine wpList_next_ranges _ rfl _ rfl 30 law30 RV (Value.int .u64) id invK30 invV gb w.heap.size n D left cnt rfl hr ?done ?more)
    case done =>
      intro h0 hlf
      go_wp2
      go_ret
      exact ⟨true, rfl, ⟨fun _ => HSm.out.2 ⟨Hl.out, fun p hp => hvis p hp (hlf _)⟩, fun _ => rfl⟩, hB⟩
    case more =>
      intro x c l y ps w2 cnt2 hkey hlk hv hat hrg hlt hgr hss hen
      have hh := hall l hlk
      obtain ⟨k, hk⟩ := HI.out.all l hh
      subst hk
      have hf := HI.out.has k
      rw [hh] at hf
      obtain ⟨p, hp⟩ := Option.isSome_iff_exists.1 hf.symm
      obtain ⟨hpm, hpk⟩ := fnd_mem hp
      subst hpk
      obtain ⟨x', hx, hx2, _⟩ := keyOf_int_inv Try.underlying30 hkey
      injection hx with _ hx
      unfold kl at hx2
      injection hx2 with _ hx2
      obtain rfl : x = ((p.k : Nat) : Int) := hx.trans hx2.symm
      obtain rfl : c = pgP (pl p.k) := by
        have := hat (.held (.pointer none))
        rw [HI.out.at' p.k, hp] at this
        exact held_inj hv this.symm
      have hB2 : Below w.heap.size w w2 := hB.grown hgr hB.size (fun k e => by cases e; exact Nat.le_refl _)
      have hok := (HM.out.mz.ok p hpm).k
      have hlook := look72_ok (own_below HD'.out hB2) HI'.out (k := p.k) (by omega)
      have HM1 : Hid (w2.rangeLeft gb w.heap.size < wr.rangeLeft gb w.heap.size) := ⟨by rw [hr.left_eq, hrg.left_eq]; exact hlt⟩
      have HX : Hid _ := ⟨hrg⟩
      have HV : Hid _ := ⟨hvis⟩
      have HA : Hid _ := ⟨hall⟩
      have HB2 : Hid _ := ⟨hB2⟩
      have HP : Hid _ := ⟨hpm⟩
      clear hr hrg hB hB2 hat hall hf hp HR hx hx2 hkey hv hgr hss hh hvis hpm hok
      rename_i z1 z2 z3
      clear z1 z2 z3
      have hnot : ¬ Mt L' p → L ≠ L' := fun hm e => hm ((HSm.out.1 e).2 p HP.out)
      cases hq : fnd L' p.k with
      | none =>
        rw [hq] at hlook
        simp only [pgV, Option.isSome_none] at hlook
        have HNo : Hid (L ≠ L') := ⟨hnot (fun ⟨q, h1, _⟩ => by rw [hq] at h1; cases h1)⟩
        clear hnot hq
        go_wp2
        go_ret
        exact ⟨false, rfl, ⟨(fun e => by cases e), fun e => absurd e HNo.out⟩, HB2.out⟩
      | some q =>
        rw [hq] at hlook
        simp only [pgV, Option.isSome_some] at hlook
        obtain ⟨hqm, hqk⟩ := fnd_mem hq
        have HC := same1_any (HM.out.below HB2.out) (HM'.out.below HB2.out) HP.out hqm
        rw [hqk] at HC
        obtain ⟨r, hr⟩ : ∃ r, decide (p.may = q.may ∧ p.B = q.B) = r := ⟨_, rfl⟩
        rw [hr] at HC
        have HMt : Hid (r = true ↔ Mt L' p) := ⟨by
          rw [← hr, decide_eq_true_eq]
          constructor
          · rintro ⟨h1, h2⟩
            exact ⟨q, hq, h1, h2⟩
          · rintro ⟨q', h0, h1, h2⟩
            rw [hq] at h0
            cases h0
            exact ⟨h1, h2⟩⟩
        have HNt : Hid _ := ⟨hnot⟩
        unfold pgP at HC hlook hen
        clear hnot hq hqm hqk hr
        cases r with
        | false =>
          go_wp2_with (first
            | (go_at_fn 42; with_reducible refine HC.mono ?_; rintro e w' ⟨he, hb⟩; subst he)
            | (go_at_call 42; with_reducible refine HC.mono ?_; rintro e w' ⟨he, hb⟩; subst he))
          go_ret
          exact ⟨false, rfl, ⟨(fun e => by cases e), fun e => absurd e (HNt.out (fun hm => by have := HMt.out.2 hm; cases this))⟩, HB2.out.trans (hb.mono HB2.out.size)⟩
        | true =>
          go_wp2_with (first
            | (go_at_fn 42; with_reducible refine HC.mono ?_; rintro e w' ⟨he, hb⟩; subst he)
            | (go_at_call 42; with_reducible refine HC.mono ?_; rintro e w' ⟨he, hb⟩; subst he))
          have hgb : w2.grownBy w' none := ⟨hb.os, hb.tape, hb.output, hb.size, fun i hi _ => hb.block i hi⟩
          have hk := HX.out.kept hgb (by simp) (by simp)
          go_roundw
          case rel =>
            refine ⟨_, cnt2, ⟨hk, fun l h => HA.out l (by simp at h; exact h.1), fun p' hp' he => ?_, HB2.out.trans (hb.mono HB2.out.size)⟩⟩
            rw [kl_same] at he
            by_cases e : p'.k = p.k
            · have : p' = p := by
                have h1 := mem_fnd HM.out.mz.up hp'
                have h2 := mem_fnd HM.out.mz.up HP.out
                rw [e] at h1
                rw [h1] at h2
                exact Option.some.inj h2
              rw [this]
              exact HMt.out.1 (by simp)
            · exact HV.out p' hp' (by simpa [e] using he)
          case measure =>
            have e1 := hk.left_eq
            have e2 := HX.out.left_eq
            have := HM1.out
            omega

theorem wp_if {c : Prop} [Decidable c] {p q : Prop} (hc : c) (h : p) : if c then p else q := by rw [if_pos hc]; exact h
theorem wp_enter {o : Oper} {a : Act} {w : World} {K : Act → World → Prop} {Q : Exit → Act → World → Prop} {f : FuncId} {args : Array Value} {R : Ending → World → Prop}
    (hx : (execOp a.eval o).run Try.prog w = .ok (.enter f args) w) (hc : Calls Try.prog f args w R) (h : ∀ e w', R e w' → ∃ v, e = .returned v ∧ K (a.put o.dst v) w') : o.wp Try.prog a w K Q := by
  unfold Oper.wp
  rw [hx, Oper.upon_enter]
  refine hc.mono ?_
  intro e w' hr
  obtain ⟨v, rfl, hk⟩ := h e w' hr
  exact hk
theorem exec_load60 {o : Oper} {a : Act} {w : World} {x : Operand} {p : Addr} {g : Option Nat} (ho : o.op = .load 60 x) (hx : a.eval x = .pointer (some p)) (hc : w.cell? p = some (.map g)) :
    (execOp a.eval o).run Try.prog w = .ok (.value (.map g)) w := by
  have hl : (loadVar 60 p).run Try.prog w = .ok (.map g) w := by simp [loadVar, isAgg, run_underlying Try.underlying60, go_sem, hc]
  exact exec_loadV ho hx hl

set_option maxRecDepth 20000 in
theorem same_any (mb gb mb' gb' : Nat) (pl pl' : Nat → Nat) (L L' : List Pz) (w : World) (h : MA w mb gb pl L) (h' : MA w mb' gb' pl' L') :
    Calls Try.prog 11 #[.pointer (some ⟨mb, 0, none⟩), .pointer (some ⟨mb', 0, none⟩)] w fun e w' => ∃ b, e = .returned (.bool b) ∧ (b = true ↔ L = L') ∧ Below w.heap.size w w' := by
  have HE : ∀ q : Nat, Calls Try.prog 41 #[.map (some gb), .map (some gb'), .func (.func 42) #[] #[]] (w.drewN q) fun e w' => ∃ b, e = .returned (.bool b) ∧ (b = true ↔ L = L') ∧ Below w.heap.size w w' := fun q => by
    have hb : Below w.heap.size w (w.drewN q) := ⟨rfl, rfl, rfl, Nat.le_refl _, fun _ _ => rfl⟩
    by_cases hl : L.length = L'.length
    · refine (equal_rest gb gb' pl pl' L L' mb mb' _ (h.below hb) (h'.below hb) hl).mono ?_
      rintro e w' ⟨b, he, hi, hb2⟩
      exact ⟨b, he, hi, hb.trans hb2⟩
    · refine (equal_len gb gb' pl pl' L L' mb mb' _ (h.below hb) (h'.below hb) hl _).mono ?_
      rintro e w' ⟨he, rfl⟩
      exact ⟨false, he, ⟨(fun e => by cases e), fun e => absurd (congrArg List.length e) hl⟩, hb⟩
  have HM := made_ok mb gb w h.mcell
  have HM' := made_ok mb' gb' w h'.mcell
  have c1 := h.mcell
  have c2 := h'.mcell
  have HE' : Hid _ := ⟨HE⟩
  clear h h' HE
  go_enter Try.func11, Try.ntmps11
  go_wp2_with (first
    | (go_at_call 40; with_reducible refine HM.mono ?_; rintro e w1 ⟨he, hw⟩; subst he; subst w1)
    | (go_at_call 40; with_reducible refine HM'.mono ?_; rintro e w1 ⟨he, hw⟩; subst he; subst w1))
  refine wp_region_held_drew (S := fun u => u.cell? ⟨mb, 0, none⟩ = some (.map (some gb)) ∧ u.cell? ⟨mb', 0, none⟩ = some (.map (some gb'))) (by kernel_rfl) ⟨c1, c2⟩ (fun hS => ?_)
  refine wpAnyH_take (i := 0) (v := .pointer (some ⟨mb, 0, none⟩)) rfl (by kernel_rfl) (by kernel_rfl) (by kernel_rfl) (fun _ _ _ h => h) (Or.inl ⟨by kernel_rfl, fun u hu => by kernel_rfl⟩) hS ?_
  simp only [Act.put, List.getElem_toArray, List.getElem_cons_succ, List.getElem_cons_zero, List.setIfInBounds_toArray, List.set_cons_zero, List.set_cons_succ]
  refine wpAnyH_take (i := 1) (v := .pointer (some ⟨mb, 0, none⟩)) rfl (by kernel_rfl) (by kernel_rfl) (by kernel_rfl) (fun _ _ _ h => h) (Or.inl ⟨by kernel_rfl, fun u hu => by kernel_rfl⟩) hS ?_
  simp only [Act.put, List.getElem_toArray, List.getElem_cons_succ, List.getElem_cons_zero, List.setIfInBounds_toArray, List.set_cons_zero, List.set_cons_succ]
  refine wpAnyH_take (i := 2) (v := .pointer (some ⟨mb, 0, none⟩)) rfl (by kernel_rfl) (by kernel_rfl) (by kernel_rfl) (fun _ _ _ h => h) (Or.inl ⟨by kernel_rfl, fun u hu => by kernel_rfl⟩) hS ?_
  simp only [Act.put, List.getElem_toArray, List.getElem_cons_succ, List.getElem_cons_zero, List.setIfInBounds_toArray, List.set_cons_zero, List.set_cons_succ]
  refine wpAnyH_take (i := 3) (v := .map (some gb)) rfl (by kernel_rfl) (by kernel_rfl) (by kernel_rfl) (fun _ _ _ h => h) (Or.inl ⟨by kernel_rfl, fun u hu => exec_load60 rfl (by kernel_rfl) hu.1⟩) hS ?_
  simp only [Act.put, List.getElem_toArray, List.getElem_cons_succ, List.getElem_cons_zero, List.setIfInBounds_toArray, List.set_cons_zero, List.set_cons_succ]
  refine wpAnyH_take (i := 4) (v := .pointer (some ⟨mb', 0, none⟩)) rfl (by kernel_rfl) (by kernel_rfl) (by kernel_rfl) (fun _ _ _ h => h) (Or.inl ⟨by kernel_rfl, fun u hu => by kernel_rfl⟩) hS ?_
  simp only [Act.put, List.getElem_toArray, List.getElem_cons_succ, List.getElem_cons_zero, List.setIfInBounds_toArray, List.set_cons_zero, List.set_cons_succ]
  refine wpAnyH_take (i := 5) (v := .pointer (some ⟨mb', 0, none⟩)) rfl (by kernel_rfl) (by kernel_rfl) (by kernel_rfl) (fun _ _ _ h => h) (Or.inl ⟨by kernel_rfl, fun u hu => by kernel_rfl⟩) hS ?_
  simp only [Act.put, List.getElem_toArray, List.getElem_cons_succ, List.getElem_cons_zero, List.setIfInBounds_toArray, List.set_cons_zero, List.set_cons_succ]
  refine wpAnyH_take (i := 6) (v := .pointer (some ⟨mb', 0, none⟩)) rfl (by kernel_rfl) (by kernel_rfl) (by kernel_rfl) (fun _ _ _ h => h) (Or.inl ⟨by kernel_rfl, fun u hu => by kernel_rfl⟩) hS ?_
  simp only [Act.put, List.getElem_toArray, List.getElem_cons_succ, List.getElem_cons_zero, List.setIfInBounds_toArray, List.set_cons_zero, List.set_cons_succ]
  refine wpAnyH_take (i := 7) (v := .map (some gb')) rfl (by kernel_rfl) (by kernel_rfl) (by kernel_rfl) (fun _ _ _ h => h) (Or.inl ⟨by kernel_rfl, fun u hu => exec_load60 rfl (by kernel_rfl) hu.2⟩) hS ?_
  simp only [Act.put, List.getElem_toArray, List.getElem_cons_succ, List.getElem_cons_zero, List.setIfInBounds_toArray, List.set_cons_zero, List.set_cons_succ]
  refine wpAnyH_ready (rs := [8]) (by kernel_rfl) (by simp) ?_
  refine AllReadyH.cons rfl (fun K hK => ?_) AllReadyH.nil
  simp only [List.getElem_toArray, List.getElem_cons_succ, List.getElem_cons_zero]
  refine wp_if (by kernel_rfl) ?_
  refine wp_enter (f := 41) (by kernel_rfl) (HE'.out 1) ?_
  rintro e w' ⟨b, rfl, hi, hb⟩
  refine ⟨_, rfl, ?_⟩
  refine hK.out _ _ ⟨(hb.cell (p := ⟨mb, 0, none⟩) (World.block_lt_of_cell? _ _ c1)).trans c1, (hb.cell (p := ⟨mb', 0, none⟩) (World.block_lt_of_cell? _ _ c2)).trans c2⟩ (fun hS => ?_)
  clear hK
  simp only [Act.put, List.getElem_toArray, List.getElem_cons_succ, List.getElem_cons_zero, List.setIfInBounds_toArray, List.set_cons_zero, List.set_cons_succ]
  refine wpAnyH_take (i := 9) (v := .bool b) rfl (by kernel_rfl) (by kernel_rfl) (by kernel_rfl) (fun _ _ _ h => h) (Or.inl ⟨by kernel_rfl, fun u hu => by kernel_rfl⟩) hS ?_
  simp only [Act.put, List.getElem_toArray, List.getElem_cons_succ, List.getElem_cons_zero, List.setIfInBounds_toArray, List.set_cons_zero, List.set_cons_succ]
  refine wpAnyH_done (by kernel_rfl) ?_ _
  go_wp2_with fail
  go_ret
  exact ⟨b, rfl, hi, hb⟩
end Go.Proofs.Ytpfmnopokfiheaa
