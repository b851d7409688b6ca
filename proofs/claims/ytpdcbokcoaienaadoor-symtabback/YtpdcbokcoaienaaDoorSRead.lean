/- The contract of Read. -/
import Derived.Test.YtpdcbokcoaienaaDoorSRd5
import Derived.Test.YtpdcbokcoaienaaDoorWritesWalk
import Derived.Deep.Cut
namespace Go.Proofs.YtpdcbokcoaienaaDoor
open Go.ChangeShapes Go.WideShapes Go.ChangeAt Go.RowKit
set_option linter.unusedVariables false
set_option linter.unusedSimpArgs false

/-- How a Write ends, with its bytes' own rows. -/
def WE2 (Y B : List Int) (n x : Int) (w : World) (e : Ending) (w' : World) : Prop :=
  ∃ vy vs, e = .returned (.tuple #[vy, vs, .int .i64 n, .int .i64 x]) ∧ Own w' w.heap.size vy Y ∧ Own w' w.heap.size vs B ∧ Below w.heap.size w w'

theorem write_both2 (l : List Sym) (ss : List ByteArray) (hl : l.length ≤ 8796093022207) (hl2 : ss.length ≤ 8796093022208) (hsz : SZ l) (hz2 : ∀ s ∈ ss, s.size ≤ 9223372036854775807) :
    ∃ Y B n x, (∀ a c a2 c2 w, Syms w a l → Strs w a2 ss → Fz w → Calls Tryd.prog 6 #[.slice a l.length c, .slice a2 ss.length c2] w fun e w' => WE2 Y B n x w e w') ∧
      (∀ a c a2 c2 w, Syms w a l → Strs w a2 ss → Calls Tryd.prog 7 #[.slice a l.length c, .slice a2 ss.length c2] w fun e w' => WE2 Y B n x w e w') ∧ (x = 0 → 24 ≤ Y.length) := by
  cases hc : checkE l ss == 0
  · refine ⟨[], [], 0, checkE l ss, fun a c a2 c2 w h1 h2 h3 => ?_, fun a c a2 c2 w h1 h2 => ?_, fun h => by rw [h] at hc; cases hc⟩
    · refine (write_bad a a2 c c2 l ss w hl hl2 h1 h2 hsz hz2 hc).mono ?_
      rintro e w' ⟨rfl, hb⟩
      exact ⟨_, _, rfl, Own.nil _ _, Own.nil _ _, hb⟩
    · refine (rwrite_bad a a2 c c2 l ss w hl hl2 h1 h2 hsz hz2 hc).mono ?_
      rintro e w' ⟨rfl, hb⟩
      exact ⟨_, _, rfl, Own.nil _ _, Own.nil _ _, hb⟩
  · have hc0 : checkE l ss = 0 := by simpa using hc
    obtain ⟨n1, n2, n3, n4, m, hm, hu, hrg, hall⟩ := check_ok hc0
    obtain ⟨b, A, hst⟩ := strM_some (l := (ordL l).map Sym.nm) (by
      rw [List.any_eq_false]
      intro s hs
      obtain ⟨y, hy, rfl⟩ := List.mem_map.1 hs
      have := (hall y (ordL_mem hy)).2
      intro hz
      unfold rightB at this
      rw [hz] at this
      simp at this) (by
      intro s hs
      obtain ⟨y, hy, rfl⟩ := List.mem_map.1 hs
      exact n3 y (ordL_mem hy)) (by rw [List.length_map, ordL_len]; exact n1)
    refine ⟨symsB (ordL l) A m, b, 1 + (locs l).length, 0, fun a c a2 c2 w h1 h2 h3 => ?_, fun a c a2 c2 w h1 h2 => ?_, fun _ => by simp [symsB, zeros24]⟩
    · refine (write_ok a a2 c c2 l ss w hl hl2 h1 h2 hsz hz2 h3 hc0 m hm b A hst).mono ?_
      rintro e w' ⟨vy, vs, rfl, o1, o2, _, hb⟩
      exact ⟨_, _, rfl, o1, o2, hb⟩
    · refine (rwrite_ok a a2 c c2 l ss w hl hl2 h1 h2 hsz hz2 hc0 m hm b A hst).mono ?_
      rintro e w' ⟨vy, vs, rfl, o1, o2, _, hb⟩
      exact ⟨_, _, rfl, o1, o2, hb⟩

/-- How a Read ends. -/
def RdEnds (m : Option (List Sym)) (w : World) (e : Ending) (w' : World) : Prop :=
  match m with
  | none => e = .returned (.tuple #[.slice none 0 0, .int .i64 80]) ∧ Below w.heap.size w w'
  | some l => ∃ ao c, e = .returned (.tuple #[.slice ao l.length c, .int .i64 0]) ∧ OwnY w' w.heap.size (.slice ao l.length c) l ∧ Below w.heap.size w w'

theorem OwnY.lower {w : World} {base base' : Nat} {v : Value} {l : List Sym} (h : OwnY w base v l) (hb : base' ≤ base) : OwnY w base' v l := by
  rcases h with ⟨h1, h2⟩
  refine ⟨h1, ?_⟩
  rcases h2 with h | ⟨g, cap, cur, h3, h4, h5⟩
  · exact .inl h
  · exact .inr ⟨g, cap, cur, h3, Nat.le_trans hb h4, h5⟩

abbrev rdBox (I : In) : Obj := .cells #[.slice I.a1 I.n1 I.k1, .slice I.a2 I.n2 I.k2, .slice I.a3 I.ss.length I.k3, .int .i64 0] 63
abbrev rdW (w : World) (I : In) : World := ((w.alloc (.cells #[.slice none 0 0] 22)).alloc (.cells #[.int .i64 0] 25)).alloc (rdBox I)

theorem cell_at {W : World} {cs : Array Value} {t : TypeId} {j n : Nat} {v : Value} (hn : W.heap.size = n) (h : cs[j]? = some v) : (W.alloc (.cells cs t)).cell? ⟨n, j, none⟩ = some v := by
  subst hn; simp only [World.cell?]; rw [heap_alloc_last]; exact h

theorem rd_start (w : World) (I : In) : RD w (rdW w I) (w.heap.size + 1 + 1) I 0 ∧ (rdW w I).cell? ⟨w.heap.size, 0, none⟩ = some (.slice none 0 0) ∧ (rdW w I).cell? ⟨w.heap.size + 1, 0, none⟩ = some (.int .i64 0) ∧ (rdW w I).frozen? ⟨w.heap.size, 0, none⟩ = false ∧ (rdW w I).frozen? ⟨w.heap.size + 1, 0, none⟩ = false ∧ (rdW w I).heap.size = w.heap.size + 1 + 1 + 1 := by
  have b1 : Below w.heap.size w (rdW w I) := (((Below.refl _ _).alloc (Nat.le_refl _) _).alloc (by simp) _).alloc (by simp; omega) _
  have e2 : ((w.alloc (.cells #[.slice none 0 0] 22)).alloc (.cells #[.int .i64 0] 25)).heap.size = w.heap.size + 1 + 1 := by simp
  have e1 : (w.alloc (.cells #[.slice none 0 0] 22)).heap.size = w.heap.size + 1 := by simp
  have z2 := fun j => fz_new ((w.alloc (.cells #[.slice none 0 0] 22)).alloc (.cells #[.int .i64 0] 25)) #[.slice I.a1 I.n1 I.k1, .slice I.a2 I.n2 I.k2, .slice I.a3 I.ss.length I.k3, .int .i64 0] 63 j
  rw [e2] at z2
  have z1 := fz_new (w.alloc (.cells #[.slice none 0 0] 22)) #[.int .i64 0] 25 0
  rw [e1] at z1
  have z0 := fz_new w #[.slice none 0 0] 22 0
  have h0 : ∀ k, k < w.heap.size + 1 + 1 → (rdW w I).heap[k]? = ((w.alloc (.cells #[.slice none 0 0] 22)).alloc (.cells #[.int .i64 0] 25)).heap[k]? := fun k hk => Below.heap_alloc _ _ _ (by rw [e2]; exact hk)
  have h1 : ∀ k, k < w.heap.size + 1 → (rdW w I).heap[k]? = (w.alloc (.cells #[.slice none 0 0] 22)).heap[k]? := fun k hk => (h0 k (by omega)).trans (Below.heap_alloc _ _ _ (by rw [e1]; exact hk))
  refine ⟨⟨cell_at e2 rfl, cell_at e2 rfl, cell_at e2 rfl, cell_at e2 rfl, z2, by omega, b1⟩, ?_, ?_, ?_, ?_, by simp⟩
  · exact (World.cell?_of_block (h1 w.heap.size (by omega))).trans (cell_at rfl rfl)
  · exact (World.cell?_of_block (h0 (w.heap.size + 1) (by omega))).trans (cell_at e1 rfl)
  · exact (World.frozen?_of_block (w := w.alloc (.cells #[.slice none 0 0] 22)) (h1 w.heap.size (by omega))).trans z0
  · exact (World.frozen?_of_block (w := (w.alloc (.cells #[.slice none 0 0] 22)).alloc (.cells #[.int .i64 0] 25)) (h0 (w.heap.size + 1) (by omega))).trans z1

set_option maxHeartbeats 4000000 in
set_option maxRecDepth 20000 in
theorem read_none (I : In) (w : World) (hi : InOk w I) (hf : Fz w) (first : Int) (hp : prsM I = none) :
    Calls Tryd.prog 13 #[.slice I.a1 I.n1 I.k1, .slice I.a2 I.n2 I.k2, .int .i64 first, .slice I.a3 I.ss.length I.k3] w fun e w' => RdEnds none w e w' := by
  obtain ⟨R, h2, h3, h4, h5, hs⟩ := rd_start w I
  have SY := symbols_read R hi hf
  rw [hp] at SY
  have HSY : Hid _ := ⟨SY⟩
  have hmf : ∀ (fn : Fn) (first cap : Array Value) (w : World), (Instr.makeFunc fn first cap).run Tryd.prog w = .ok (.func fn first cap) w := fun _ _ _ _ => rfl
  have t1 := hi.t1
  have t2 := hi.t2
  have HV : Hid (_ ∧ _ ∧ _ ∧ _ ∧ _) := ⟨R.bel, h2, h3, h4, h5⟩
  clear SY hp hi hf R h2 h3 h4 h5
  go_enter_defers Tryd.func13, Tryd.ntmps13
  go_wp2_with (go_at_call 32; (with_reducible refine HSY.out.mono ?_); rintro e w1 hw1; obtain ⟨rfl, hb1⟩ := hw1)
  obtain ⟨b0, h2, h3, h4, h5⟩ := HV.out
  have n0 : w.heap.size ≠ w.heap.size + 1 + 1 := by omega
  have n1 : w.heap.size + 1 ≠ w.heap.size + 1 + 1 := by omega
  have i2 := (World.cell?_of_block (a := ⟨w.heap.size, 0, none⟩) (hb1.block w.heap.size (by omega) n0)).trans h2
  have i3 := (World.cell?_of_block (a := ⟨w.heap.size + 1, 0, none⟩) (hb1.block (w.heap.size + 1) (by omega) n1)).trans h3
  have i4 := (World.frozen?_of_block (w := rdW w I) (a := ⟨w.heap.size, 0, none⟩) (hb1.block w.heap.size (by omega) n0)).trans h4
  have i5 := (World.frozen?_of_block (w := rdW w I) (a := ⟨w.heap.size + 1, 0, none⟩) (hb1.block (w.heap.size + 1) (by omega) n1)).trans h5
  have b1 : Below w.heap.size w w1 := b0.trans (hb1.below b0.size (fun k e => by omega))
  refine leaves_cons (f := 31) (args := #[.pointer (some ⟨w.heap.size, 0, none⟩), .pointer (some ⟨w.heap.size + 1, 0, none⟩)]) (by simp) (by simp [go_sem]) ?_
  refine (catch_bad w.heap.size (w.heap.size + 1) none 0 0 0 [] w1 i2 i3 i4 i5 (by omega)).mono ?_
  rintro e u' w'' ⟨rfl, rfl, rfl⟩
  have j1 : (((w1.setCell ⟨w.heap.size, 0, none⟩ (.slice none 0 0)).setCell ⟨w.heap.size + 1, 0, none⟩ (.int .i64 80)).drew).cell? ⟨w.heap.size, 0, none⟩ = some (.slice none 0 0) := by simp [go_sem, i2]
  have j2 : (((w1.setCell ⟨w.heap.size, 0, none⟩ (.slice none 0 0)).setCell ⟨w.heap.size + 1, 0, none⟩ (.int .i64 80)).drew).cell? ⟨w.heap.size + 1, 0, none⟩ = some (.int .i64 80) := by simp [go_sem, i3]
  exact ⟨_, res_read _ _ w.heap.size (w.heap.size + 1) none 0 0 80 (by kernel_rfl) (by kernel_rfl) j1 j2, rfl, ((b1.setCell (by show w.heap.size ≤ w.heap.size; omega) _).setCell (by show w.heap.size ≤ w.heap.size + 1; omega) _).drew⟩
end Go.Proofs.YtpdcbokcoaienaaDoor
