/- The contract of Unmap. -/
import Derived.Test.YtpfmnopokfiheaaMThere
namespace Go.Proofs.Ytpfmnopokfiheaa
open Go.ChangeShapes Go.WideShapes Go.ChangeAt Go.RowKit Go.Maps Go.ChangeMaps Go.MapKept
set_option linter.unusedVariables false
set_option linter.unusedSimpArgs false

/-- Without the pages of a span. -/
def delL (L : List Pz) (f n : Nat) : List Pz := L.filter (fun p => !inB f (f + n) p)
theorem delL_zero (L : List Pz) (f : Nat) : delL L f 0 = L := by
  unfold delL
  rw [List.filter_eq_self]
  intro p _
  simp [inB]
  omega
theorem delL_mem {L : List Pz} {f n : Nat} {q : Pz} : q ∈ delL L f n ↔ q ∈ L ∧ ¬ (f ≤ q.k ∧ q.k < f + n) := by
  unfold delL
  rw [List.mem_filter]
  simp only [inB, Bool.not_eq_true', Bool.and_eq_false_iff, decide_eq_false_iff_not]
  constructor
  · rintro ⟨h1, h2⟩; exact ⟨h1, by omega⟩
  · rintro ⟨h1, h2⟩; exact ⟨h1, by omega⟩
theorem delL_up {L : List Pz} (h : L.Pairwise (fun p q => p.k < q.k)) (f n : Nat) : (delL L f n).Pairwise (fun p q => p.k < q.k) := h.filter _
theorem delL_succ (L : List Pz) (f n : Nat) : delL L f (n + 1) = (delL L f n).filter (fun p => decide (p.k ≠ f + n)) := by
  unfold delL
  rw [List.filter_filter]
  apply List.filter_congr
  intro p _
  simp only [inB]
  by_cases h1 : f ≤ p.k <;> by_cases h2 : p.k < f + n <;> by_cases h3 : p.k = f + n <;> simp [h1, h2, h3] <;> omega
/-- All of n pages from f on are there. -/
theorem in_all {L : List Pz} (hu : L.Pairwise (fun p q => p.k < q.k)) : ∀ (n f : Nat), ¬ inN L f (f + n) < n → ∀ i, i < n → ∃ p ∈ L, p.k = f + i := by
  have hlen : ∀ (l : List Nat) (f n : Nat), l.Pairwise (fun a b => a < b) → (∀ x ∈ l, f ≤ x ∧ x < f + n) → l.length ≤ n ∧ (l.length = n → ∀ i, i < n → f + i ∈ l) := by
    intro l
    induction l with
    | nil =>
      intro f n _ _
      exact ⟨Nat.zero_le _, fun e i hi => by simp at e; omega⟩
    | cons a l ih =>
      intro f n hp hb
      obtain ⟨h1, h2⟩ := List.pairwise_cons.1 hp
      have ha := hb a (by simp)
      obtain ⟨g1, g2⟩ := ih (a + 1) (f + n - (a + 1)) h2 (fun x hx => by have := h1 x hx; have := hb x (by simp [hx]); omega)
      refine ⟨by simp; omega, fun e i hi => ?_⟩
      simp at e
      by_cases hia : f + i = a
      · simp [hia]
      · have : a = f := by omega
        have := g2 (by omega) (f + i - (a + 1)) (by omega)
        rw [show a + 1 + (f + i - (a + 1)) = f + i by omega] at this
        simp [this]
  intro n f hn i hi
  have h := hlen ((L.filter (inB f (f + n))).map (fun p => p.k)) f n (by rw [List.pairwise_map]; exact hu.filter _) (fun x hx => by
    simp only [List.mem_map, List.mem_filter, inB, Bool.and_eq_true, decide_eq_true_eq] at hx
    obtain ⟨p, ⟨_, h1⟩, rfl⟩ := hx
    exact h1)
  unfold inN at hn
  have := h.2 (by have := h.1; simp at this ⊢; omega) i hi
  simp only [List.mem_map, List.mem_filter] at this
  obtain ⟨p, ⟨h1, _⟩, h2⟩ := this
  exact ⟨p, h1, h2⟩

theorem own_least {w : World} {b n : Nat} {D : DataW Value} (h : w.ownsMap Try.prog 30 RV b n D) : w.ownsMap Try.prog 30 RV b (Maps.size D) D := by
  obtain ⟨es, c, he, F, hs, rfl⟩ := h
  exact ⟨es, c, he, F, by simp [Maps.size, length_sorted], rfl⟩

theorem Inv.del {D : DataW Value} {pl : Nat → Nat} {L : List Pz} (h : Inv D pl L) (hu : L.Pairwise (fun p q => p.k < q.k)) {p : Pz} (hp : p ∈ L) : Inv (D.del (kl p.k)) pl (L.filter (fun q => decide (q.k ≠ p.k))) := by
  have hf : ∀ k, fnd (L.filter (fun q => decide (q.k ≠ p.k))) k = if k = p.k then Option.none else fnd L k := fun k => by
    by_cases e : k = p.k
    · rw [if_pos e, fnd_none]
      intro q hq e2
      simp only [List.mem_filter, decide_eq_true_eq] at hq
      exact hq.2 (e2.trans e)
    · rw [if_neg e]
      cases hq : fnd L k with
      | none =>
        rw [fnd_none] at hq ⊢
        exact fun q hm => hq q (List.mem_filter.1 hm).1
      | some q =>
        obtain ⟨h1, h2⟩ := fnd_mem hq
        exact (fnd_iff (hu.filter _)).2 ⟨List.mem_filter.2 ⟨h1, by simp; omega⟩, h2⟩
  have hpf := mem_fnd hu hp
  have hlen : (L.filter (fun q => decide (q.k ≠ p.k))).length + 1 = L.length := by
    obtain ⟨A, B, rfl⟩ := List.append_of_mem hp
    obtain ⟨h1, h2, h3⟩ := List.pairwise_append.1 hu
    obtain ⟨h4, h5⟩ := List.pairwise_cons.1 h2
    rw [List.filter_append, List.filter_cons, if_neg (by simp), List.filter_eq_self.2 (fun q hq => by have := h3 q hq p (by simp); simp; omega), List.filter_eq_self.2 (fun q hq => by have := h4 q hq; simp; omega)]
    simp
    omega
  refine ⟨h.is.del _, ?_, fun k => ?_, fun k => ?_, fun l hl => ?_⟩
  · have := size_del h.is (k := kl p.k)
    rw [h.has, hpf, h.size] at this
    simp at this
    omega
  · rw [hf]
    by_cases e : k = p.k
    · subst e; rw [if_pos rfl, has_del_same]; rfl
    · rw [if_neg e, has_del_other (fun h => e (kl_inj h))]; exact h.has k
  · rw [hf]
    by_cases e : k = p.k
    · subst e; rw [if_pos rfl, atKey_del_same]; rfl
    · rw [if_neg e, atKey_del_other (fun h => e (kl_inj h))]; exact h.at' k
  · by_cases e : l = kl p.k
    · exact ⟨_, e⟩
    · rw [has_del_other e] at hl; exact h.all l hl

theorem MA.del {w w2 : World} {mb gb n : Nat} {pl : Nat → Nat} {L : List Pz} (h : MA w mb gb pl L) {p : Pz} (hp : p ∈ L) {D : DataW Value} (hI : Inv D pl L) (hown : w2.ownsMap Try.prog 30 RV gb n (D.del (kl p.k))) (hg : w.grownBy w2 (some gb)) :
    MA w2 mb gb pl (L.filter (fun q => decide (q.k ≠ p.k))) := by
  have hI' := hI.del h.mz.up hp
  have hb : ∀ b, b < w.heap.size → b ≠ gb → w2.heap[b]? = w.heap[b]? := fun b hb hne => hg.block b hb (by simpa using hne)
  refine ⟨?_, ⟨_, by rw [← hI'.size]; exact own_least hown, hI'⟩, fun q hq => ?_, fun q hq r hr e => ?_, ⟨fun q hq => ?_, h.mz.up.filter _⟩⟩
  · rw [hb mb h.mlt h.mg]; exact h.cells
  · have hq' := (List.mem_filter.1 hq).1
    rw [hb _ (h.plt hq') (h.pg hq')]
    exact h.pages q hq'
  · exact h.inj q (List.mem_filter.1 hq).1 r (List.mem_filter.1 hr).1 e
  · exact h.mz.ok q (List.mem_filter.1 hq).1

def unmL (L : List Pz) (a : Nat) (pages : Int) : List Pz := if thrE L a pages 0 = 0 then delL L (a / 4096) pages.toNat else L

theorem unmap_bad (mb gb a : Nat) (pl : Nat → Nat) (L : List Pz) (pages : Int) (w : World) (h : MA w mb gb pl L) (ha : a < 18446744073709551616) (hp : -9223372036854775808 ≤ pages ∧ pages ≤ 9223372036854775807) (hLL : L.length ≤ 1048576) (hE : thrE L a pages 0 ≠ 0) :
    Calls Try.prog 26 #[.pointer (some ⟨mb, 0, none⟩), .int .u64 a, .int .i64 pages] w fun e w' => e = .returned (.int .i64 (thrE L a pages 0)) ∧ Nx w w' mb gb pl L (unmL L a pages) := by
  have HN := there_ok mb gb a pl L pages 0 w h ha hp hLL
  have HL : unmL L a pages = L := by unfold unmL; rw [if_neg hE]
  unfold thrV at HN
  rw [if_neg hE] at HN
  rw [HL]
  generalize thrE L a pages 0 = q at *
  have HM : Hid _ := ⟨h⟩
  clear h HL hE
  unfold spV at HN
  go_enter Try.func26, Try.ntmps26
  go_wp2_with (go_at_call 51; with_reducible refine HN.mono ?_; rintro e w1 ⟨he, hb⟩; subst he)
  go_loopw [9] (fun nv wr => nv = .int .u64 0 ∧ wr = w1.alloc (.cells #[.int .u64 0, .int .u64 0] 90)) (fun _ _ => 0)
  case atStart => exact ⟨rfl, rfl⟩
  case round =>
    obtain ⟨rfl, rfl⟩ := hrel
    go_wp2
    go_ret
    exact ⟨rfl, Nx.same HM.out (hb.alloc hb.size _)⟩

theorem turned_grown {w w' : World} {b : Nat} (h : w.mapTurned w' b) : w.grownBy w' (some b) := by
  obtain ⟨es, c, es', c', hb, rfl⟩ := h
  exact ⟨rfl, rfl, rfl, by simp [setBlock], fun i _ hi => heap_setBlock_other hb _ (fun e => hi (by rw [e]))⟩

theorem unmap_done (mb gb a : Nat) (pl : Nat → Nat) (L : List Pz) (pages : Int) (w : World) (h : MA w mb gb pl L) (ha : a < 18446744073709551616) (hp : -9223372036854775808 ≤ pages ∧ pages ≤ 9223372036854775807) (hLL : L.length ≤ 1048576) (hE : thrE L a pages 0 = 0) :
    Calls Try.prog 26 #[.pointer (some ⟨mb, 0, none⟩), .int .u64 a, .int .i64 pages] w fun e w' => e = .returned (.int .i64 (thrE L a pages 0)) ∧ Nx w w' mb gb pl L (unmL L a pages) := by
  have HN := there_ok mb gb a pl L pages 0 w h ha hp hLL
  have HL : unmL L a pages = delL L (a / 4096) pages.toNat := by unfold unmL; rw [if_pos hE]
  obtain ⟨p1, p2, p3, p4, p5, p6⟩ := namE_ok (thr_nam hE)
  have hin : ¬ inN L (a / 4096) (a / 4096 + pages.toNat) < pages.toNat := fun hi => by
    unfold thrE at hE
    rw [if_neg (by simpa using thr_nam hE), if_pos hi] at hE
    cases hE
  have hall := in_all h.mz.up _ _ hin
  unfold thrV at HN
  rw [if_pos hE] at HN
  rw [HL, hE]
  have hfg : a / 4096 + pages.toNat ≤ 34359738368 := by omega
  generalize a / 4096 = f at *
  generalize pages.toNat = n at *
  obtain ⟨g, hg⟩ : ∃ g, f + n = g := ⟨_, rfl⟩
  rw [hg] at HN
  have Hg : Hid _ := ⟨hg⟩
  have HM : Hid _ := ⟨h⟩
  have HA : Hid _ := ⟨hall⟩
  have HF : Hid _ := ⟨hfg⟩
  clear h HL hE hin hall hfg hg p1 p2 p3 p4 p5 p6
  unfold spV at HN
  go_enter Try.func26, Try.ntmps26
  go_wp2_with (go_at_call 51; with_reducible refine HN.mono ?_; rintro e w1 ⟨he, hb⟩; subst he)
  have B1 := hb.alloc hb.size (.cells #[.int .u64 (f : Int), .int .u64 (g : Int)] 90)
  have s1 : (w1.alloc (.cells #[.int .u64 (f : Int), .int .u64 (g : Int)] 90)).cell? ⟨w1.heap.size, 0, none⟩ = some (.int .u64 (f : Int)) := by simp
  have s2 : (w1.alloc (.cells #[.int .u64 (f : Int), .int .u64 (g : Int)] 90)).cell? ⟨w1.heap.size, 1, none⟩ = some (.int .u64 (g : Int)) := by simp
  have hw1 : w.heap.size ≤ w1.heap.size := hb.size
  generalize w1.alloc (.cells #[.int .u64 (f : Int), .int .u64 (g : Int)] 90) = w2 at *
  generalize w1.heap.size = sb at *
  have HB1 : Hid _ := ⟨B1⟩
  clear B1 hb HN
  go_loopw [9] (fun nv wr => ∃ i : Nat, i ≤ n ∧ nv = .int .u64 ((f + i : Nat) : Int) ∧ Hid (MA wr mb gb pl (delL L f i) ∧ Turn (MS mb gb pl L) w wr ∧ wr.cell? ⟨sb, 0, none⟩ = some (.int .u64 (f : Int)) ∧ wr.cell? ⟨sb, 1, none⟩ = some (.int .u64 (g : Int))))
    (fun nv _ => f + n - (intOf nv).toNat)
  case atStart => exact ⟨0, by omega, rfl, ⟨by rw [delL_zero]; exact HM.out.below HB1.out, Turn.of_below HB1.out _, s1, s2⟩⟩
  case round =>
    obtain ⟨i, hi, rfl, HR⟩ := hrel
    obtain ⟨hma, htu, c1, c2⟩ := HR.out
    have hc := hma.mcell
    have hgg := Hg.out
    have hff := HF.out
    by_cases hin : i < n
    rotate_left
    · obtain rfl : i = n := by omega
      have q1 : ¬ ((f + i : Nat) : Int) < ((g : Nat) : Int) := by omega
      clear hma htu
      go_wp2
      go_ret
      refine ⟨rfl, pl, HR.out.1, HR.out.2.1, fun b hb => .inl ?_⟩
      rcases hb with e | e | ⟨p, hp, e⟩
      · exact .inl e
      · exact .inr (.inl e)
      · exact .inr (.inr ⟨p, (delL_mem.1 hp).1, e⟩)
    · have q1 : ((f + i : Nat) : Int) < ((g : Nat) : Int) := by omega
      obtain ⟨p, hpL, hpk⟩ := HA.out i hin
      have hpd : p ∈ delL L f i := delL_mem.2 ⟨hpL, by omega⟩
      obtain ⟨D', hD', hI'⟩ := hma.own
      have HD' : Hid _ := ⟨hD'⟩
      have HI' : Hid _ := ⟨hI'⟩
      have HK : Hid (keyOf Try.prog 30 (.int .u64 ((f + i : Nat) : Int)) = some (kl (f + i))) := ⟨key30 (by omega)⟩
      have HMa : Hid _ := ⟨hma⟩
      have HTu : Hid _ := ⟨htu⟩
      have HP : Hid (p ∈ delL L f i ∧ p.k = f + i) := ⟨hpd, hpk⟩
      clear hma htu hD' hI' HR hpL hpk hpd
      obtain ⟨j, hj⟩ : ∃ j, f + i = j := ⟨_, rfl⟩
      have Hj : Hid _ := ⟨hj⟩
      have hjs : ((j + 1 : Nat) : Int) ≤ 34359738368 := by omega
      rw [hj] at HK q1
      rw [hj]
      clear hj hgg hff
      go_wp2_with (at_delete; ((with_reducible refine wpList_delete_own _ rfl _ _ 60 30 rfl 72 law30 Try.underlying60 RV gb _ D' ?h1 HD'.out (.int .u64 (j : Int)) (kl j) ?h2 HK.out ?_); (case h1 => rfl); (case h2 => rfl); intro w3 hown3 hturn3))
      have hpj : p.k = j := HP.out.2.trans Hj.out
      have hg3 := turned_grown hturn3
      have hm3 := HMa.out.del HP.out.1 HI'.out (by rw [hpj]; exact hown3) hg3
      rw [HP.out.2, ← delL_succ] at hm3
      have hgs : gb ≠ sb := fun e => by have := HM.out.glt; omega
      have hblk : ∀ o, w3.cell? ⟨sb, o, none⟩ = wr.cell? ⟨sb, o, none⟩ := fun o => by
        have hlt : sb < wr.heap.size := World.block_lt_of_cell? _ _ c1
        have e1 : w3.heap[sb]? = wr.heap[sb]? := hg3.block sb hlt (by simp; omega)
        simp only [World.cell?, e1]
      have hjj := Hj.out
      refine ⟨⟨i + 1, by omega, by rw [← hjj]; congr 1, ⟨hm3, HTu.out.grown hg3 (fun k _ e => by cases e; exact .inr (.inl rfl)), (hblk 0).trans c1, (hblk 1).trans c2⟩⟩, ?_⟩
      simp only [intOf]
      omega

theorem unmap_ok (mb gb a : Nat) (pl : Nat → Nat) (L : List Pz) (pages : Int) (w : World) (h : MA w mb gb pl L) (ha : a < 18446744073709551616) (hp : -9223372036854775808 ≤ pages ∧ pages ≤ 9223372036854775807) (hLL : L.length ≤ 1048576) :
    Calls Try.prog 26 #[.pointer (some ⟨mb, 0, none⟩), .int .u64 a, .int .i64 pages] w fun e w' => e = .returned (.int .i64 (thrE L a pages 0)) ∧ Nx w w' mb gb pl L (unmL L a pages) := by
  by_cases hE : thrE L a pages 0 = 0
  · exact unmap_done mb gb a pl L pages w h ha hp hLL hE
  · exact unmap_bad mb gb a pl L pages w h ha hp hLL hE
theorem unmL_len {L : List Pz} {a : Nat} {pages : Int} {m : Nat} (hLL : L.length ≤ m) : (unmL L a pages).length ≤ m := by
  unfold unmL
  split
  · exact Nat.le_trans (List.length_filter_le _ _) hLL
  · exact hLL
end Go.Proofs.Ytpfmnopokfiheaa
