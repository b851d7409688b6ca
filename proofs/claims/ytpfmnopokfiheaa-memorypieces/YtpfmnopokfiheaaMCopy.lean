/- The contract of Copy. -/
import Derived.Test.YtpfmnopokfiheaaMEqual
import Derived.Laws.Tables
namespace Go.Proofs.Ytpfmnopokfiheaa
open Go.ChangeShapes Go.WideShapes Go.ChangeAt Go.RowKit Go.Maps
set_option linter.unusedVariables false
set_option linter.unusedSimpArgs false

theorem alloc_setRow (w : World) (A C : Array Value) (t : TypeId) : (w.alloc (.cells A t)).setRow w.heap.size C = w.alloc (.cells C t) := by
  unfold World.setRow World.alloc
  simp only
  congr 1
  apply Array.ext_getElem?
  intro i
  rw [Array.getElem?_modify]
  by_cases e : w.heap.size = i
  · subst e; simp
  · rw [if_neg e]
    by_cases h : i < w.heap.size
    · simp [Array.getElem?_push, h, Nat.ne_of_lt h]
    · rw [Array.getElem?_push, Array.getElem?_push, if_neg (fun e' => e e'.symm), if_neg (fun e' => e e'.symm)]
theorem pgC_one (m : Int) (B : List Int) : (pgC m B).all (·.oneCell') = true := by
  unfold pgC
  rw [List.all_toArray]
  simp [Value.oneCell']
/-- The pages that have come. -/
def visL (L : List Pz) (left : Lit → Bool) : List Pz := L.filter (fun p => !left (kl p.k))
theorem vis_plus {L : List Pz} (hu : L.Pairwise (fun p q => p.k < q.k)) {p : Pz} (hp : p ∈ L) {left : Lit → Bool} (hl : left (kl p.k) = true) : Plus (visL L left) (visL L (fun z => left z && !z.sameKey (kl p.k))) p := by
  have e1 : ∀ q : Pz, (!(left (kl q.k) && !(kl q.k).sameKey (kl p.k))) = (!left (kl q.k) || decide (q.k = p.k)) := fun q => by
    rw [kl_same]
    cases left (kl q.k) <;> cases decide (q.k = p.k) <;> rfl
  have huq : ∀ q ∈ L, q.k = p.k → q = p := fun q hq e => by
    have h1 := mem_fnd hu hq
    have h2 := mem_fnd hu hp
    rw [e] at h1
    rw [h1] at h2
    exact Option.some.inj h2
  refine ⟨fun q => ?_, hu.filter _, ?_, fun q hq e => ?_⟩
  · unfold visL
    rw [List.mem_filter, List.mem_filter, e1]
    constructor
    · rintro ⟨h1, h2⟩
      simp only [Bool.or_eq_true, decide_eq_true_eq] at h2
      rcases h2 with h2 | h2
      · exact .inl ⟨h1, h2⟩
      · exact .inr (huq q h1 h2)
    · rintro (⟨h1, h2⟩ | rfl)
      · exact ⟨h1, by simp [h2]⟩
      · exact ⟨hp, by simp⟩
  · unfold visL
    obtain ⟨A, B, rfl⟩ := List.append_of_mem hp
    obtain ⟨h1, h2, h3⟩ := List.pairwise_append.1 hu
    obtain ⟨h4, h5⟩ := List.pairwise_cons.1 h2
    have hA : ∀ q ∈ A, q.k ≠ p.k := fun q hq => by have := h3 q hq p (by simp); omega
    have hB : ∀ q ∈ B, q.k ≠ p.k := fun q hq => by have := h4 q hq; omega
    have e2 : ∀ l : List Pz, (∀ q ∈ l, q.k ≠ p.k) → l.filter (fun q => !(left (kl q.k) && !(kl q.k).sameKey (kl p.k))) = l.filter (fun q => !left (kl q.k)) := fun l hl' => by
      apply List.filter_congr
      intro q hq
      rw [e1]
      simp [hl' q hq]
    show ((A ++ p :: B).filter (fun q => !(left (kl q.k) && !(kl q.k).sameKey (kl p.k)))).length = ((A ++ p :: B).filter (fun q => !left (kl q.k))).length + 1
    rw [List.filter_append, List.filter_append, List.filter_cons, List.filter_cons, e2 A hA, e2 B hB, e1]
    simp [hl]
    omega
  · unfold visL at hq
    obtain ⟨h1, h2⟩ := List.mem_filter.1 hq
    rw [huq q h1 e, hl] at h2
    cases h2

theorem wpList_load75 {ops : Array Oper} {rest : List Oper} {o : Oper} {a : Act} {w : World} {Q : Exit → Act → World → Prop} {x : Operand} {p : Addr} {v : Value} (hgd : o.guard = none) (ho : o.op = .load 75 x)
    (hx : a.eval x = .pointer (some p)) (hl : (loadVar 75 p).run Try.prog w = .ok v w)
    (h : wpList Try.prog ops Q rest (a.put o.dst v) w) : wpList Try.prog ops Q (o :: rest) a w := by
  refine wpList_plain hgd fun K hK => ?_
  unfold Oper.wp
  rw [exec_loadV ho hx hl, Oper.upon_value]
  exact hK _ _ h

set_option maxRecDepth 20000 in
theorem copy_any (mb gb : Nat) (pl : Nat → Nat) (L : List Pz) (w : World) (h : MA w mb gb pl L) (hLL : L.length ≤ 1048576) :
    Calls Try.prog 15 #[.pointer (some ⟨mb, 0, none⟩)] w fun e w' => ∃ cb cg pl', e = .returned (.pointer (some ⟨cb, 0, none⟩)) ∧ MA w' cb cg pl' L ∧ (∀ b, MS cb cg pl' L b → w.heap.size ≤ b) ∧ Below w.heap.size w w' := by
  have HM := made_ok mb gb w h.mcell
  have HN := new_any w
  obtain ⟨D, hD, hI⟩ := h.own
  have HD : Hid _ := ⟨hD⟩
  have HI : Hid _ := ⟨hI⟩
  have HMA : Hid _ := ⟨h⟩
  have HLL : Hid _ := ⟨hLL⟩
  clear h hD hI hLL
  go_enter Try.func15, Try.ntmps15
  go_upto_region 4 with (first
    | (go_at_call 40; with_reducible refine HM.mono ?_; rintro e w1 ⟨he, hw⟩; subst he; subst w1)
    | (go_at_call 8; with_reducible refine HN.mono ?_; rintro e w1 ⟨he, hm1, hb1, hs1⟩; subst he))
  have hc := (HMA.out.below hb1).mcell
  have HD1 : Hid _ := ⟨own_below HD.out hb1⟩
  generalize hsz : w.heap.size = s at *
  generalize hz1 : w1.heap.size = s1 at *
  have HM1 : Hid _ := ⟨hm1⟩
  have HB1 : Hid _ := ⟨hb1⟩
  have Hs1 : Hid (s1 = s + 2) := ⟨hs1⟩
  clear hm1 hb1 hs1
  go_wp2_with (refine wpList_range_own _ rfl _ 60 rfl 30 72 law30 Try.underlying60 RV gb L.length D rfl HD1.out ?_; intro w2 hr2 hg2 hs2)
  simp only [Act.put, List.getElem_toArray, List.getElem_cons_succ, List.getElem_cons_zero, List.setIfInBounds_toArray, List.set_cons_zero, List.set_cons_succ]
  rw [hz1] at hr2 hs2 ⊢
  have HB2 : Hid (Below s w w2) := ⟨HB1.out.trans ⟨hg2.os, hg2.tape, hg2.output, hg2.size, fun k hk => hg2.block k (by have := Hs1.out; omega) (by simp)⟩⟩
  have HMc : Hid (MA w2 (s + 1) s (fun _ => 0) []) := ⟨HM1.out.grown hg2 (fun r e => by cases e)⟩
  have hr2s := hr2
  clear HN HM HD1
  go_loopw [] (fun wr => ∃ (left : Lit → Bool) (cnt : Nat) (pl' : Nat → Nat), Hid (wr.ranges Try.prog 30 RV gb s1 L.length D left cnt ∧ (∀ l, left l = true → Maps.has D l = true) ∧ MA wr (s + 1) s pl' (visL L left) ∧ (∀ b, MS (s + 1) s pl' (visL L left) b → s ≤ b ∧ b ≠ s1) ∧ Below s w wr ∧ s1 < wr.heap.size))
    (fun wr => wr.rangeLeft gb s1)
  case atStart =>
    have e0 : visL L (Maps.has D) = [] := by
      unfold visL
      rw [List.filter_eq_nil_iff]
      intro p hp
      rw [HI.out.has, mem_fnd HMA.out.mz.up hp]
      simp
    refine ⟨Maps.has D, Maps.size D, fun _ => 0, ⟨hr2, fun _ h => h, by rw [e0]; exact HMc.out, ?_, HB2.out, by omega⟩⟩
    rw [e0]
    rintro b (rfl | rfl | ⟨p, hp, _⟩)
    · have := Hs1.out; omega
    · have := Hs1.out; omega
    · cases hp
  case round =>
    obtain ⟨left, cnt, pl', HR⟩ := hrel
    obtain ⟨hr, hall, hmc, hbs, hB, hs1w⟩ := HR.out
    go_wp2_with (refine wpList_next_ranges _ rfl _ rfl 30 law30 RV (Value.int .u64) id invK30 invV gb s1 L.length D left cnt rfl hr ?done ?more)
    case done =>
      intro h0 hlf
      have ef : visL L left = L := by
        unfold visL
        rw [List.filter_eq_self]
        intro p _
        simp [hlf]
      rw [ef] at hmc hbs
      have HF : Hid _ := ⟨hmc⟩
      have HFb : Hid _ := ⟨hbs⟩
      clear hmc hbs hr HR
      go_wp2
      go_ret
      exact ⟨s + 1, s, pl', rfl, HF.out, fun b hb => by have := (HFb.out b hb).1; omega, by rw [hsz]; exact hB⟩
    case more =>
      intro x c l y ps w3 cnt2 hkey hlk hv hat hrg hlt hgr hss hen
      have hh := hall l hlk
      obtain ⟨k, hk⟩ := HI.out.all l hh
      subst hk
      have hf := HI.out.has k
      rw [hh] at hf
      obtain ⟨p, hp⟩ := Option.isSome_iff_exists.1 hf.symm
      obtain ⟨hpm, hpk⟩ := fnd_mem hp
      subst hpk
      obtain ⟨x', hx, hx2, _⟩ := keyOf_int_inv Try.underlying30 hkey
      injection hx with _ hx
      unfold kl at hx2
      injection hx2 with _ hx2
      obtain rfl : x = ((p.k : Nat) : Int) := hx.trans hx2.symm
      obtain rfl : c = pgP (pl p.k) := by
        have := hat (.held (.pointer none))
        rw [HI.out.at' p.k, hp] at this
        exact held_inj hv this.symm
      have hB3 : Below s w w3 := hB.grown hgr (by have := hB.size; omega) (fun k e => by cases e; have := Hs1.out; omega)
      have hmc3 : MA w3 (s + 1) s pl' (visL L left) := hmc.grown hgr (fun r e hb => by cases e; exact (hbs s1 hb).2 rfl)
      have hpo := HMA.out.mz.ok p hpm
      have hplus := vis_plus HMA.out.mz.up hpm hlk
      have hMA3 : MA w3 mb gb pl L := HMA.out.below (by rw [hsz]; exact hB3)
      have hld := load75 hpo.len (hMA3.pages p hpm) w3 rfl
      have hCs : (pgC p.may p.B).size = 4097 := by simp [pgC, hpo.len]
      have hC1 := pgC_one p.may p.B
      obtain ⟨C, hC⟩ : ∃ C, pgC p.may p.B = C := ⟨_, rfl⟩
      obtain ⟨D', hD', hI'⟩ := hmc3.own
      have HD' : Hid _ := ⟨hD'.alloc (.cells C 75)⟩
      have HI' : Hid _ := ⟨hI'⟩
      have hvl : (visL L left).length < maxLen := by
        have h1 : (visL L left).length ≤ L.length := List.length_filter_le _ _
        have := HLL.out
        unfold maxLen
        omega
      have hcc : (w3.alloc (.cells C 75)).cell? ⟨s + 1, 0, none⟩ = some (.map (some s)) := (hmc3.alloc _).mcell
      have HK : Hid (keyOf Try.prog 30 (.int .u64 ((p.k : Nat) : Int)) = some (kl p.k)) := ⟨key30 (by have := hpo.k; omega)⟩
      rw [hC] at hld hCs hC1
      have HC : Hid _ := ⟨hC⟩
      have HCs : Hid _ := ⟨hCs⟩
      have HC1 : Hid _ := ⟨hC1⟩
      have HM3 : Hid _ := ⟨hmc3⟩
      have HPl : Hid _ := ⟨hplus⟩
      have HPo : Hid _ := ⟨hpo⟩
      have HB3 : Hid _ := ⟨hB3⟩
      have HVl : Hid _ := ⟨hvl⟩
      have HBs : Hid _ := ⟨hbs⟩
      have HA : Hid _ := ⟨hall⟩
      have HX : Hid _ := ⟨hrg⟩
      have HMs : Hid (w3.rangeLeft gb s1 < wr.rangeLeft gb s1) := ⟨by rw [hr.left_eq, hrg.left_eq]; exact hlt⟩
      have Hw3 : Hid (s1 < w3.heap.size) := ⟨by omega⟩
      clear hr hrg hB hB3 hat hall hf hp HR hx hx2 hkey hv hgr hss hh hmc hmc3 hbs hpo hplus hMA3 hCs hC1 hC hD' hI' hvl hlt hlk
      rename_i z1 z2 z3
      clear z1 z2 z3
      unfold pgP at hen ⊢
      go_wp2_with (first
        | (refine wpList_load75 (x := .tmp 22) (p := ⟨pl p.k, 0, none⟩) rfl rfl ?h5 hld ?_; (case h5 => rfl))
        | (refine wpList_store_row rfl 75 (.tmp 6) (.tmp 23) rfl w3.heap.size C ?h6 ?h7 75 Try.zeroCells75 (heap_last w3 _) (by rw [size75, HCs.out]) (by rw [HCs.out]; exact Try.zeroCells75_size) HC1.out ?_; (case h6 => rfl); (case h7 => rfl); rw [alloc_setRow])
        | (at_mapUpdate; ((with_reducible refine wpList_mapUpdate_own _ rfl _ _ _ 60 rfl 30 72 law30 Try.underlying60 RV s _ D' ?h1 HD'.out HVl.out (.int .u64 ((p.k : Nat) : Int)) (.pointer (some ⟨w3.heap.size, 0, none⟩)) (kl p.k) ?h2 ?h3 HK.out (.held (pgP w3.heap.size)) [] ?h4 ?_); (case h1 => rfl); (case h2 => rfl); (case h3 => rfl); (case h4 => rfl); intro w4 hown4 hg4)))
      have hC := HC.out
      subst hC
      have hs1 := Hs1.out
      have hm4 := HM3.out.put HPl.out HPo.out HI'.out hown4 hg4
      have h34 : ∀ b, b < w3.heap.size → b ≠ s → w4.heap[b]? = w3.heap[b]? := fun b hb hne => by
        rw [hg4.block b (by simp; omega) (by simpa using hne), Below.heap_alloc _ _ _ hb]
      have hgbs : gb ≠ s := fun e => by have := HMA.out.glt; omega
      have hk4 : w4.ranges Try.prog 30 RV gb s1 L.length D (fun z => left z && !z.sameKey (kl p.k)) cnt2 := (HX.out.alloc _).kept hg4 (by simp; omega) (by simp; omega)
      have hB4 : Below s w w4 := (HB3.out.alloc (by have := HB3.out.size; omega) _).grown hg4 (by have := HB3.out.size; simp; omega) (fun k e => by cases e; exact Nat.le_refl _)
      have hsz4 := hg4.size
      have hw3 := Hw3.out
      simp at hsz4
      simp only [Act.put]
      go_roundw
      case rel =>
        refine ⟨_, cnt2, upd pl' p.k w3.heap.size, ⟨hk4, fun l h => HA.out l (by simp at h; exact h.1), hm4, fun b hb => ?_, hB4, by omega⟩⟩
        rcases hb with rfl | rfl | ⟨q, hq, rfl⟩
        · exact HBs.out _ (.inl rfl)
        · exact HBs.out _ (.inr (.inl rfl))
        · rcases (HPl.out.mem q).1 hq with hq | rfl
          · have hne := HPl.out.new q hq
            simp only [upd, if_neg hne]
            exact HBs.out _ (.inr (.inr ⟨q, hq, rfl⟩))
          · simp only [upd, if_true]
            exact ⟨by omega, by omega⟩
      case measure =>
        have e1 := hk4.left_eq
        have e2 := HX.out.left_eq
        have := HMs.out
        omega
end Go.Proofs.Ytpfmnopokfiheaa
