/- The contract of present: how many of the pages that are there lie in a span. -/
import Derived.Test.YtpfmnopokfiheaaMNamed
namespace Go.Proofs.Ytpfmnopokfiheaa
open Go.ChangeShapes Go.WideShapes Go.ChangeAt Go.RowKit Go.Maps
set_option linter.unusedVariables false
set_option linter.unusedSimpArgs false

def inB (f e : Nat) (p : Pz) : Bool := decide (f ≤ p.k) && decide (p.k < e)
/-- How many pages lie in a span. -/
def inN (L : List Pz) (f e : Nat) : Nat := (L.filter (inB f e)).length
/-- .. that have come. -/
def cntL (L : List Pz) (f e : Nat) (left : Lit → Bool) : Nat := (L.filter (fun p => inB f e p && !left (kl p.k))).length

theorem kl_same (a b : Nat) : (kl a).sameKey (kl b) = decide (a = b) := by
  by_cases h : a = b
  · subst h; rw [WideAt.sameKey_self (kl_key a)]; simp
  · rw [sameKey_ne (fun e => h (kl_inj e))]; simp [h]

theorem cnt_step {L : List Pz} (hu : L.Pairwise (fun p q => p.k < q.k)) {p : Pz} (hp : p ∈ L) {left : Lit → Bool} (hl : left (kl p.k) = true) (f e : Nat) :
    cntL L f e (fun z => left z && !z.sameKey (kl p.k)) = cntL L f e left + (if inB f e p = true then 1 else 0) := by
  obtain ⟨A, B, rfl⟩ := List.append_of_mem hp
  obtain ⟨h1, h2, h3⟩ := List.pairwise_append.1 hu
  obtain ⟨h4, h5⟩ := List.pairwise_cons.1 h2
  have hA : ∀ q ∈ A, q.k ≠ p.k := fun q hq => by have := h3 q hq p (by simp); omega
  have hB : ∀ q ∈ B, q.k ≠ p.k := fun q hq => by have := h4 q hq; omega
  unfold cntL
  have e1 : ∀ l : List Pz, (∀ q ∈ l, q.k ≠ p.k) → l.filter (fun q => inB f e q && !(left (kl q.k) && !(kl q.k).sameKey (kl p.k))) = l.filter (fun q => inB f e q && !left (kl q.k)) := by
    intro l hl'
    apply List.filter_congr
    intro q hq
    rw [kl_same]
    simp [hl' q hq]
  show (List.filter (fun q => inB f e q && !(left (kl q.k) && !(kl q.k).sameKey (kl p.k))) (A ++ p :: B)).length = (List.filter (fun q => inB f e q && !left (kl q.k)) (A ++ p :: B)).length + _
  rw [List.filter_append, List.filter_append, List.filter_cons, List.filter_cons, e1 A hA, e1 B hB, kl_same, hl]
  cases inB f e p <;> simp <;> omega

theorem cnt_none {L : List Pz} {left : Lit → Bool} (h : ∀ l, left l = false) (f e : Nat) : cntL L f e left = inN L f e := by
  unfold cntL inN
  congr 1
  apply List.filter_congr
  intro q _
  simp [h]
theorem cnt_all {L : List Pz} {left : Lit → Bool} (h : ∀ p ∈ L, left (kl p.k) = true) (f e : Nat) : cntL L f e left = 0 := by
  unfold cntL
  rw [List.length_eq_zero_iff, List.filter_eq_nil_iff]
  intro q hq
  simp [h q hq]
theorem cnt_le (L : List Pz) (f e : Nat) (left : Lit → Bool) : cntL L f e left ≤ L.length := List.length_filter_le _ _

theorem invK30 (key : Value) (l : Lit) (h : keyOf Try.prog 30 key = some l) : ∃ x, key = Value.int .u64 x := by
  obtain ⟨x, rfl, _⟩ := keyOf_int_inv Try.underlying30 h
  exact ⟨x, rfl⟩
theorem invV (v : Value) (y : DataW Value × List MemPlace) (h : RV v = some y) : ∃ c : Value, v = id c := ⟨v, rfl⟩

theorem present_ok (mb gb : Nat) (pl : Nat → Nat) (L : List Pz) (f e : Nat) (w : World) (h : MA w mb gb pl L) (hL : L.length ≤ 1048576) :
    Calls Try.prog 50 #[.pointer (some ⟨mb, 0, none⟩), spV f e] w fun en w' => en = .returned (.int .i64 (inN L f e)) ∧ Below w.heap.size w w' := by
  obtain ⟨D, hD, hI⟩ := h.own
  have hc := h.mcell
  have hmlt := h.mlt
  have hB0 : Below w.heap.size w (w.alloc (.cells #[.int .u64 (f : Int), .int .u64 (e : Int)] 90)) := (Below.refl _ _).alloc (Nat.le_refl _) _
  have HB0 : Hid _ := ⟨hB0⟩
  have HD : Hid _ := ⟨hD.alloc (.cells #[.int .u64 (f : Int), .int .u64 (e : Int)] 90)⟩
  have hc0 := (hB0.cell (p := ⟨mb, 0, none⟩) hmlt).trans hc
  have c1 : (w.alloc (.cells #[.int .u64 (f : Int), .int .u64 (e : Int)] 90)).cell? ⟨w.heap.size, 0, none⟩ = some (.int .u64 (f : Int)) := by simp
  have c2 : (w.alloc (.cells #[.int .u64 (f : Int), .int .u64 (e : Int)] 90)).cell? ⟨w.heap.size, 1, none⟩ = some (.int .u64 (e : Int)) := by simp
  have HM : Hid _ := ⟨h⟩
  have HI : Hid _ := ⟨hI⟩
  have HL : Hid _ := ⟨hL⟩
  clear hD hI hB0 h hc hL
  unfold spV
  go_enter Try.func50, Try.ntmps50
  go_wp2_with (refine wpList_range_own _ rfl _ 60 rfl 30 72 law30 Try.underlying60 RV gb L.length D rfl HD.out ?_; intro w1 hr1 hg1 hs1)
  obtain ⟨w0, hw0⟩ : ∃ w0, w.alloc (.cells #[.int .u64 (f : Int), .int .u64 (e : Int)] 90) = w0 := ⟨_, rfl⟩
  have hsz : w0.heap.size = w.heap.size + 1 := by rw [← hw0]; simp
  rw [hw0] at HB0 hc0 c1 c2 hr1 hg1 hs1
  rw [hw0]
  rw [hsz] at hr1
  rw [hsz]
  have HB1 : Hid (Below (w.heap.size + 1) w0 w1) := ⟨by
    refine ⟨hg1.os, hg1.tape, hg1.output, hg1.size, fun k hk => hg1.block k (by omega) (by simp)⟩⟩
  simp only [Act.put, List.getElem_toArray, List.getElem_cons_succ, List.getElem_cons_zero, List.setIfInBounds_toArray, List.set_cons_zero, List.set_cons_succ]
  go_loopw [5] (fun nv wr => ∃ (left : Lit → Bool) (cnt : Nat), nv = .int .i64 (cntL L f e left) ∧ Hid (wr.ranges Try.prog 30 RV gb (w.heap.size + 1) L.length D left cnt ∧ (∀ l, left l = true → has D l = true) ∧ Below (w.heap.size + 1) w0 wr))
    (fun _ wr => wr.rangeLeft gb (w.heap.size + 1))
  case atStart =>
    refine ⟨has D, Maps.size D, ?_, ⟨hr1, fun _ h => h, HB1.out⟩⟩
    rw [cnt_all (fun p hp => by rw [HI.out.has, mem_fnd HM.out.mz.up hp]; rfl)]
    rfl
  case round =>
    obtain ⟨left, cnt, rfl, HR⟩ := hrel
    obtain ⟨hr, hall, hB⟩ := HR.out
    have hcl := cnt_le L f e left
    have hLL := HL.out
    have c1' : wr.cell? ⟨w.heap.size, 0, none⟩ = some (.int .u64 (f : Int)) := (hB.cell (p := ⟨w.heap.size, 0, none⟩) (by simp)).trans c1
    have c2' : wr.cell? ⟨w.heap.size, 1, none⟩ = some (.int .u64 (e : Int)) := (hB.cell (p := ⟨w.heap.size, 1, none⟩) (by simp)).trans c2
    go_wp2_with (refine wpList_next_ranges _ rfl _ rfl 30 law30 RV (Value.int .u64) id invK30 invV gb (w.heap.size + 1) L.length D left cnt rfl hr ?done ?more)
    case done =>
      intro h0 hl
      go_wp2
      go_ret
      refine ⟨ret_int (by rw [cnt_none hl]), ?_⟩
      exact HB0.out.trans (hB.mono (by omega))
    case more =>
      intro x c l y ps w2 cnt2 hkey hlk hv hat hrg hlt hgr hss hen
      have hh := hall l hlk
      obtain ⟨k, hk⟩ := HI.out.all l hh
      subst hk
      have hf := HI.out.has k
      rw [hall _ hlk] at hf
      obtain ⟨p, hp⟩ := Option.isSome_iff_exists.1 hf.symm
      obtain ⟨hpm, rfl⟩ := fnd_mem hp
      obtain ⟨x', hx, hx2, _⟩ := keyOf_int_inv Try.underlying30 hkey
      injection hx with _ hx
      unfold kl at hx2
      injection hx2 with _ hx2
      obtain rfl : x = ((p.k : Nat) : Int) := hx.trans hx2.symm
      have hB2 : Below (w.heap.size + 1) w0 w2 := hB.grown hgr (by have := hB.size; omega) (fun k e => by cases e; exact Nat.le_refl _)
      have hcs := cnt_step HM.out.mz.up hpm hlk f e
      have hm1 := hr.left_eq
      have hm2 := hrg.left_eq
      have hcl2 := cnt_le L f e (fun z => left z && !z.sameKey (kl p.k))
      have HX : Hid _ := ⟨(⟨hrg, fun l h => hall l (by simp at h; exact h.1), hB2⟩ : w2.ranges Try.prog 30 RV gb (w.heap.size + 1) L.length D (fun z => left z && !z.sameKey (kl p.k)) cnt2 ∧ (∀ l, (fun z => left z && !z.sameKey (kl p.k)) l = true → has D l = true) ∧ Below (w.heap.size + 1) w0 w2)⟩
      have d1 : w2.cell? ⟨w.heap.size, 0, none⟩ = some (.int .u64 (f : Int)) := (hB2.cell (p := ⟨w.heap.size, 0, none⟩) (by simp)).trans c1
      have d2 : w2.cell? ⟨w.heap.size, 1, none⟩ = some (.int .u64 (e : Int)) := (hB2.cell (p := ⟨w.heap.size, 1, none⟩) (by simp)).trans c2
      have HS : Hid _ := ⟨hcs⟩
      have HM1 : Hid (w2.rangeLeft gb (w.heap.size + 1) < wr.rangeLeft gb (w.heap.size + 1)) := ⟨by rw [hm1, hm2]; exact hlt⟩
      clear hcs hm1 hm2 hr hrg hB hB2 hat hall hf hp HR hx hx2 hkey hv hgr hss hh
      rename_i z1 z2 z3
      clear z1 z2 z3
      by_cases q1 : f ≤ p.k
      · by_cases q2 : p.k < e
        · have r1 : ((f : Nat) : Int) ≤ ((p.k : Nat) : Int) := by omega
          have r2 : ((p.k : Nat) : Int) < ((e : Nat) : Int) := by omega
          have hb : inB f e p = true := by simp [inB, q1, q2]
          go_wp2
          go_roundw
          case rel => exact ⟨_, cnt2, by rw [HS.out, if_pos hb]; rfl, HX⟩
          case measure => exact HM1.out
        · have r1 : ((f : Nat) : Int) ≤ ((p.k : Nat) : Int) := by omega
          have r2 : ¬ ((p.k : Nat) : Int) < ((e : Nat) : Int) := by omega
          have hb : ¬ inB f e p = true := by simp [inB, q1, q2]
          go_wp2
          go_roundw
          case rel => exact ⟨_, cnt2, by rw [HS.out, if_neg hb]; rfl, HX⟩
          case measure => exact HM1.out
      · have r1 : ¬ ((f : Nat) : Int) ≤ ((p.k : Nat) : Int) := by omega
        have hb : ¬ inB f e p = true := by simp [inB, q1]
        go_wp2
        go_roundw
        case rel => exact ⟨_, cnt2, by rw [HS.out, if_neg hb]; rfl, HX⟩
        case measure => exact HM1.out
end Go.Proofs.Ytpfmnopokfiheaa
