/- The contract of Protect. -/
import Derived.Test.YtpfmnopokfiheaaMUnmap
namespace Go.Proofs.Ytpfmnopokfiheaa
open Go.ChangeShapes Go.WideShapes Go.ChangeAt Go.RowKit Go.Maps
set_option linter.unusedVariables false
set_option linter.unusedSimpArgs false

/-- What may be done with the pages of a span. -/
def prL (L : List Pz) (f n : Nat) (may : Int) : List Pz := L.map (fun p => if inB f (f + n) p = true then ⟨p.k, may, p.B⟩ else p)
def maL (L : List Pz) (k : Nat) (may : Int) : List Pz := L.map (fun p => if p.k = k then ⟨p.k, may, p.B⟩ else p)
theorem prL_zero (L : List Pz) (f : Nat) (may : Int) : prL L f 0 may = L := by
  unfold prL
  have : ∀ p ∈ L, (if inB f (f + 0) p = true then (⟨p.k, may, p.B⟩ : Pz) else p) = id p := fun p _ => by
    have h : ¬ inB f (f + 0) p = true := by simp only [inB, Bool.and_eq_true, decide_eq_true_eq]; omega
    rw [if_neg h]; rfl
  rw [List.map_congr_left this, List.map_id]
theorem prL_succ (L : List Pz) (f n : Nat) (may : Int) : prL L f (n + 1) may = maL (prL L f n may) (f + n) may := by
  unfold prL maL
  rw [List.map_map]
  apply List.map_congr_left
  intro p _
  simp only [Function.comp]
  by_cases h1 : inB f (f + n) p = true
  · have h2 : inB f (f + (n + 1)) p = true := by simp [inB] at h1 ⊢; omega
    rw [if_pos h1, if_pos h2]
    split <;> rfl
  · rw [if_neg h1]
    by_cases h3 : p.k = f + n
    · rw [if_pos h3, if_pos (by simp [inB]; omega)]
    · rw [if_neg h3, if_neg (by simp [inB] at h1 ⊢; omega)]
theorem maL_k (L : List Pz) (k : Nat) (may : Int) : (maL L k may).map (fun p => p.k) = L.map (fun p => p.k) := by
  unfold maL
  rw [List.map_map]
  apply List.map_congr_left
  intro p _
  simp only [Function.comp]
  split <;> rfl
theorem prL_k (L : List Pz) (f n : Nat) (may : Int) : (prL L f n may).map (fun p => p.k) = L.map (fun p => p.k) := by
  unfold prL
  rw [List.map_map]
  apply List.map_congr_left
  intro p _
  simp only [Function.comp]
  split <;> rfl
theorem fnd_k : ∀ {L L' : List Pz}, L'.map (fun p => p.k) = L.map (fun p => p.k) → ∀ k, (fnd L' k).isSome = (fnd L k).isSome
  | [], [], _, _ => rfl
  | [], _ :: _, h, _ => by simp at h
  | _ :: _, [], h, _ => by simp at h
  | p :: L, p' :: L', h, k => by
    simp only [List.map_cons, List.cons.injEq] at h
    obtain ⟨h1, h2⟩ := h
    unfold fnd
    rw [List.find?_cons, List.find?_cons, h1]
    cases (p.k == k) with
    | true => rfl
    | false => exact fnd_k h2 k
theorem Inv.ks {D : DataW Value} {pl : Nat → Nat} {L L' : List Pz} (h : Inv D pl L) (hk : L'.map (fun p => p.k) = L.map (fun p => p.k)) : Inv D pl L' :=
  ⟨h.is, by rw [h.size]; have := congrArg List.length hk; simpa using this.symm, fun k => by rw [h.has, fnd_k hk], fun k => by rw [h.at' k, pgV_key (fnd_k hk k)], h.all⟩
theorem k_mem {L L' : List Pz} (h : L'.map (fun p => p.k) = L.map (fun p => p.k)) {p : Pz} (hp : p ∈ L) : ∃ q ∈ L', q.k = p.k := by
  have : p.k ∈ L'.map (fun p => p.k) := by rw [h]; exact List.mem_map.2 ⟨p, hp, rfl⟩
  obtain ⟨q, hq, e⟩ := List.mem_map.1 this
  exact ⟨q, hq, e⟩
theorem MS_k {mb gb : Nat} {pl : Nat → Nat} {L L' : List Pz} (h : L'.map (fun p => p.k) = L.map (fun p => p.k)) {b : Nat} (hb : MS mb gb pl L' b) : MS mb gb pl L b := by
  rcases hb with e | e | ⟨p, hp, e⟩
  · exact .inl e
  · exact .inr (.inl e)
  · obtain ⟨q, hq, e1⟩ := k_mem h.symm hp
    exact .inr (.inr ⟨q, hq, by rw [e1]; exact e⟩)
theorem up_k {L L' : List Pz} (h : L'.map (fun p => p.k) = L.map (fun p => p.k)) (hu : L.Pairwise (fun p q => p.k < q.k)) : L'.Pairwise (fun p q => p.k < q.k) := by
  have h1 : (L.map (fun p => p.k)).Pairwise (fun a b => a < b) := by rw [List.pairwise_map]; exact hu
  rw [← h, List.pairwise_map] at h1
  exact h1

theorem MA.may {w : World} {mb gb : Nat} {pl : Nat → Nat} {L : List Pz} (h : MA w mb gb pl L) {p : Pz} (hp : p ∈ L) {m : Int} (h0 : 0 ≤ m) (h7 : m ≤ 7) : MA (w.setCell ⟨pl p.k, 0, none⟩ (.int .i64 m)) mb gb pl (maL L p.k m) := by
  have hk := maL_k L p.k m
  have hb : ∀ b, b ≠ pl p.k → (w.setCell ⟨pl p.k, 0, none⟩ (.int .i64 m)).heap[b]? = w.heap[b]? := fun b hne => Below.heap_setCell _ _ _ _ (by simpa using hne)
  have hset := setCell_eq_setRow w (pl p.k) 0 _ _ _ (.int .i64 m) (h.pages p hp)
  obtain ⟨D, ⟨es, c, he, r⟩, hI⟩ := h.own
  have hlen : (maL L p.k m).length = L.length := by simp [maL]
  refine ⟨?_, ⟨D, ⟨es, c, by rw [hb gb (h.pg hp).symm]; exact he, by rw [hlen]; exact r⟩, hI.ks hk⟩, fun q hq => ?_, fun q hq q' hq' e => ?_, ⟨fun q hq => ?_, up_k hk h.mz.up⟩⟩
  · rw [hb mb (h.pm hp).symm]; exact h.cells
  · unfold maL at hq
    obtain ⟨q0, hq0, rfl⟩ := List.mem_map.1 hq
    by_cases e : q0.k = p.k
    · have : q0 = p := by
        have h1 := mem_fnd h.mz.up hq0
        have h3 := mem_fnd h.mz.up hp
        rw [e] at h1
        rw [h1] at h3
        exact Option.some.inj h3
      subst this
      rw [if_pos rfl]
      show (w.setCell ⟨pl q0.k, 0, none⟩ (.int .i64 m)).heap[pl q0.k]? = _
      rw [hset, setRow_heap w (pl q0.k) _ _ _ _ (h.pages q0 hp)]
      rfl
    · rw [if_neg e, hb _ (fun e2 => e (h.inj q0 hq0 p hp e2))]
      exact h.pages q0 hq0
  · obtain ⟨a, ha, ea⟩ := k_mem hk.symm hq
    obtain ⟨b, hb', eb⟩ := k_mem hk.symm hq'
    rw [← ea, ← eb] at e ⊢
    exact h.inj a ha b hb' e
  · unfold maL at hq
    obtain ⟨q0, hq0, rfl⟩ := List.mem_map.1 hq
    have ho := h.mz.ok q0 hq0
    by_cases e : q0.k = p.k
    · rw [if_pos e]; exact ⟨ho.k, h0, h7, ho.len, ho.byte⟩
    · rw [if_neg e]; exact ho

def proL (L : List Pz) (a : Nat) (pages may : Int) : List Pz := if thrE L a pages may = 0 then prL L (a / 4096) pages.toNat may else L

theorem protect_bad (mb gb a : Nat) (pl : Nat → Nat) (L : List Pz) (pages may : Int) (w : World) (h : MA w mb gb pl L) (ha : a < 18446744073709551616) (hp : -9223372036854775808 ≤ pages ∧ pages ≤ 9223372036854775807) (hLL : L.length ≤ 1048576) (hE : thrE L a pages may ≠ 0) :
    Calls Try.prog 27 #[.pointer (some ⟨mb, 0, none⟩), .int .u64 a, .int .i64 pages, .int .i64 may] w fun e w' => e = .returned (.int .i64 (thrE L a pages may)) ∧ MA w' mb gb pl (proL L a pages may) ∧ Turn (MS mb gb pl L) w w' := by
  have HN := there_ok mb gb a pl L pages may w h ha hp hLL
  have HL : proL L a pages may = L := by unfold proL; rw [if_neg hE]
  unfold thrV at HN
  rw [if_neg hE] at HN
  rw [HL]
  generalize thrE L a pages may = q at *
  have HM : Hid _ := ⟨h⟩
  clear h HL hE
  unfold spV at HN
  go_enter Try.func27, Try.ntmps27
  go_wp2_with (go_at_call 51; with_reducible refine HN.mono ?_; rintro e w1 ⟨he, hb⟩; subst he)
  go_loopw [11] (fun nv wr => nv = .int .u64 0 ∧ wr = w1.alloc (.cells #[.int .u64 0, .int .u64 0] 90)) (fun _ _ => 0)
  case atStart => exact ⟨rfl, rfl⟩
  case round =>
    obtain ⟨rfl, rfl⟩ := hrel
    go_wp2
    go_ret
    exact ⟨rfl, HM.out.below (hb.alloc hb.size _), Turn.of_below (hb.alloc hb.size _) _⟩

theorem protect_done (mb gb a : Nat) (pl : Nat → Nat) (L : List Pz) (pages may : Int) (w : World) (h : MA w mb gb pl L) (ha : a < 18446744073709551616) (hp : -9223372036854775808 ≤ pages ∧ pages ≤ 9223372036854775807) (hLL : L.length ≤ 1048576) (hE : thrE L a pages may = 0) :
    Calls Try.prog 27 #[.pointer (some ⟨mb, 0, none⟩), .int .u64 a, .int .i64 pages, .int .i64 may] w fun e w' => e = .returned (.int .i64 (thrE L a pages may)) ∧ MA w' mb gb pl (proL L a pages may) ∧ Turn (MS mb gb pl L) w w' := by
  have HN := there_ok mb gb a pl L pages may w h ha hp hLL
  have HL : proL L a pages may = prL L (a / 4096) pages.toNat may := by unfold proL; rw [if_pos hE]
  obtain ⟨p1, p2, p3, p4, p5, p6⟩ := namE_ok (thr_nam hE)
  have hin : ¬ inN L (a / 4096) (a / 4096 + pages.toNat) < pages.toNat := fun hi => by
    unfold thrE at hE
    rw [if_neg (by simpa using thr_nam hE), if_pos hi] at hE
    cases hE
  have hall := in_all h.mz.up _ _ hin
  unfold thrV at HN
  rw [if_pos hE] at HN
  rw [HL, hE]
  have hfg : a / 4096 + pages.toNat ≤ 34359738368 := by omega
  generalize a / 4096 = f at *
  generalize pages.toNat = n at *
  obtain ⟨g, hg⟩ : ∃ g, f + n = g := ⟨_, rfl⟩
  rw [hg] at HN
  have Hg : Hid _ := ⟨hg⟩
  have HM : Hid _ := ⟨h⟩
  have HA : Hid _ := ⟨hall⟩
  have HF : Hid _ := ⟨hfg⟩
  have Hm : Hid (0 ≤ may ∧ may ≤ 7) := ⟨p2, p3⟩
  clear h HL hE hin hall hfg hg p1 p2 p3 p4 p5 p6
  unfold spV at HN
  go_enter Try.func27, Try.ntmps27
  go_wp2_with (go_at_call 51; with_reducible refine HN.mono ?_; rintro e w1 ⟨he, hb⟩; subst he)
  have B1 := hb.alloc hb.size (.cells #[.int .u64 (f : Int), .int .u64 (g : Int)] 90)
  have s1 : (w1.alloc (.cells #[.int .u64 (f : Int), .int .u64 (g : Int)] 90)).cell? ⟨w1.heap.size, 0, none⟩ = some (.int .u64 (f : Int)) := by simp
  have s2 : (w1.alloc (.cells #[.int .u64 (f : Int), .int .u64 (g : Int)] 90)).cell? ⟨w1.heap.size, 1, none⟩ = some (.int .u64 (g : Int)) := by simp
  have hw1 : w.heap.size ≤ w1.heap.size := hb.size
  generalize w1.alloc (.cells #[.int .u64 (f : Int), .int .u64 (g : Int)] 90) = w2 at *
  generalize w1.heap.size = sb at *
  have HB1 : Hid _ := ⟨B1⟩
  clear B1 hb HN
  go_loopw [11] (fun nv wr => ∃ i : Nat, i ≤ n ∧ nv = .int .u64 ((f + i : Nat) : Int) ∧ Hid (MA wr mb gb pl (prL L f i may) ∧ Turn (MS mb gb pl L) w wr ∧ wr.cell? ⟨sb, 0, none⟩ = some (.int .u64 (f : Int)) ∧ wr.cell? ⟨sb, 1, none⟩ = some (.int .u64 (g : Int))))
    (fun nv _ => f + n - (intOf nv).toNat)
  case atStart => exact ⟨0, by omega, rfl, ⟨by rw [prL_zero]; exact HM.out.below HB1.out, Turn.of_below HB1.out _, s1, s2⟩⟩
  case round =>
    obtain ⟨i, hi, rfl, HR⟩ := hrel
    obtain ⟨hma, htu, c1, c2⟩ := HR.out
    have hc := hma.mcell
    have hgg := Hg.out
    have hff := HF.out
    by_cases hin : i < n
    rotate_left
    · obtain rfl : i = n := by omega
      have q1 : ¬ ((f + i : Nat) : Int) < ((g : Nat) : Int) := by omega
      clear hma htu
      go_wp2
      go_ret
      exact ⟨rfl, HR.out.1, HR.out.2.1⟩
    · have q1 : ((f + i : Nat) : Int) < ((g : Nat) : Int) := by omega
      obtain ⟨p0, hpL, hpk0⟩ := HA.out i hin
      obtain ⟨p, hpd, hpk⟩ := k_mem (prL_k L f i may) hpL
      rw [hpk0] at hpk
      obtain ⟨D', hD', hI'⟩ := hma.own
      have hlk := look72 hD' hI' (k := f + i) (by omega)
      have hf1 := mem_fnd hma.mz.up hpd
      rw [hpk] at hf1
      rw [hf1] at hlk
      simp only [pgV, pgP] at hlk
      have hpc := hma.pcell hpd
      rw [hpk] at hpc
      have hpf : wr.frozen? ⟨pl (f + i), 0, none⟩ = false := by
        have := hma.pages p hpd
        rw [hpk] at this
        simp [World.frozen?, this]
      have HMa : Hid _ := ⟨hma⟩
      have HTu : Hid _ := ⟨htu⟩
      have HP : Hid (p ∈ prL L f i may ∧ p.k = f + i) := ⟨hpd, hpk⟩
      have HP0 : Hid (p0 ∈ L ∧ p0.k = f + i) := ⟨hpL, hpk0⟩
      clear hma htu hD' hI' HR hpL hpk hpd hf1 hpk0
      obtain ⟨j, hj⟩ : ∃ j, f + i = j := ⟨_, rfl⟩
      have Hj : Hid _ := ⟨hj⟩
      have hjs : ((j + 1 : Nat) : Int) ≤ 34359738368 := by omega
      rw [hj] at hlk q1 hpc hpf
      rw [hj]
      clear hj hgg hff
      go_wp2
      have hjj := Hj.out
      have hm3 := HMa.out.may HP.out.1 Hm.out.1 Hm.out.2
      rw [HP.out.2, ← prL_succ, hjj] at hm3
      have hms : MS mb gb pl L (pl j) := .inr (.inr ⟨p0, HP0.out.1, by rw [HP0.out.2, hjj]⟩)
      have hlt := HM.out.slt hms
      have hblk : ∀ o, (wr.setCell ⟨pl j, 0, none⟩ (.int .i64 may)).cell? ⟨sb, o, none⟩ = wr.cell? ⟨sb, o, none⟩ := fun o => by
        have e1 : (wr.setCell ⟨pl j, 0, none⟩ (.int .i64 may)).heap[sb]? = wr.heap[sb]? := Below.heap_setCell _ _ _ _ (by simp; omega)
        simp only [World.cell?, e1]
      refine ⟨⟨i + 1, by omega, by rw [← hjj]; congr 1, ⟨hm3, HTu.out.setCell _ (.inl hms) _, (hblk 0).trans c1, (hblk 1).trans c2⟩⟩, ?_⟩
      simp only [intOf]
      omega

theorem protect_ok (mb gb a : Nat) (pl : Nat → Nat) (L : List Pz) (pages may : Int) (w : World) (h : MA w mb gb pl L) (ha : a < 18446744073709551616) (hp : -9223372036854775808 ≤ pages ∧ pages ≤ 9223372036854775807) (hLL : L.length ≤ 1048576) :
    Calls Try.prog 27 #[.pointer (some ⟨mb, 0, none⟩), .int .u64 a, .int .i64 pages, .int .i64 may] w fun e w' => e = .returned (.int .i64 (thrE L a pages may)) ∧ MA w' mb gb pl (proL L a pages may) ∧ Turn (MS mb gb pl L) w w' := by
  by_cases hE : thrE L a pages may = 0
  · exact protect_done mb gb a pl L pages may w h ha hp hLL hE
  · exact protect_bad mb gb a pl L pages may w h ha hp hLL hE
theorem proL_k (L : List Pz) (a : Nat) (pages may : Int) : (proL L a pages may).map (fun p => p.k) = L.map (fun p => p.k) := by
  unfold proL
  split
  · exact prL_k _ _ _ _
  · rfl
end Go.Proofs.Ytpfmnopokfiheaa
