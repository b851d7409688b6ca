/- What both Memories answer to Store and to Load, in one form. -/
import Derived.Test.YtpfmnopokfiheaaLPair
namespace Go.Proofs.Ytpfmnopokfiheaa
open Go.ChangeShapes Go.WideShapes Go.ChangeAt Go.RowKit Go.Maps
set_option linter.unusedVariables false
set_option linter.unusedSimpArgs false

def stoE (L : List Pz) (a : Nat) (n : Int) : Int := if isSizeB n = true then givE L 2 61 a n.toNat else 1
def stoL (L : List Pz) (a : Nat) (n x : Int) : List Pz := if isSizeB n = true then givL L 2 61 a (btL x n.toNat) else L
def loV (L : List Pz) (a : Nat) (n : Int) : Int := if isSizeB n = true then (if reachB L 4 a n.toNat = true then ldN (rdB L 4 a n.toNat) n.toNat else 0) else 0
def loE (L : List Pz) (a : Nat) (n : Int) : Int := if isSizeB n = true then (if reachB L 4 a n.toNat = true then 0 else 61) else 1
theorem stoL_k (L : List Pz) (a : Nat) (n x : Int) : (stoL L a n x).map (fun p => p.k) = L.map (fun p => p.k) := by
  unfold stoL
  split
  · exact givL_k _ _ _ _ _
  · rfl
theorem size_nat {n : Int} (h : isSizeB n = true) : ∃ m : Nat, n = (m : Int) := ⟨n.toNat, by unfold isSizeB at h; simp at h; omega⟩

theorem mstore_nx (mb gb a : Nat) (pl : Nat → Nat) (L : List Pz) (n x : Int) (w : World) (h : MA w mb gb pl L) (ha : a < 18446744073709551616) :
    Calls Try.prog 21 #[.pointer (some ⟨mb, 0, none⟩), .int .u64 a, .int .i64 n, .int .u64 x] w fun e w' => e = .returned (.int .i64 (stoE L a n)) ∧ Nx w w' mb gb pl L (stoL L a n x) := by
  have hk := stoL_k L a n x
  unfold stoE
  unfold stoL at hk ⊢
  cases hn : isSizeB n with
  | false =>
    rw [if_neg (by decide), if_neg (by decide)]
    refine (store_bad _ a n x w hn).mono ?_
    rintro e w' ⟨rfl, rfl⟩
    exact ⟨rfl, Nx.same h (Below.refl _ _)⟩
  | true =>
    rw [if_pos rfl, if_pos rfl]
    rw [hn, if_pos rfl] at hk
    obtain ⟨m, rfl⟩ := size_nat hn
    rw [Int.toNat_natCast] at hk ⊢
    refine (store_any mb gb a m pl L x w h ha hn).mono ?_
    rintro e w' ⟨rfl, hm, ht⟩
    exact ⟨rfl, nx_k hk hm ht⟩
theorem rstore_rx (rb a : Nat) (lv : Value) (pb : Nat → Nat) (L : List Pz) (n x : Int) (w : World) (h : RA w rb lv pb L) (ha : a < 18446744073709551616) (hL : L.length ≤ 1048576) (hx : 0 ≤ x ∧ x < 18446744073709551616) :
    Calls Try.prog 34 #[.pointer (some ⟨rb, 0, none⟩), .int .u64 a, .int .i64 n, .int .u64 x] w fun e w' => e = .returned (.int .i64 (stoE L a n)) ∧ RX w w' rb lv pb L (stoL L a n x) := by
  have hk := stoL_k L a n x
  unfold stoE
  unfold stoL at hk ⊢
  cases hn : isSizeB n with
  | false =>
    rw [if_neg (by decide), if_neg (by decide)]
    refine (rstore_bad rb a n x w hn).mono ?_
    rintro e w' ⟨rfl, rfl⟩
    exact ⟨rfl, RX.same h (Below.refl _ _)⟩
  | true =>
    rw [if_pos rfl, if_pos rfl]
    rw [hn, if_pos rfl] at hk
    obtain ⟨m, rfl⟩ := size_nat hn
    rw [Int.toNat_natCast] at hk ⊢
    refine (rstore_any rb a m x lv pb L w h ha hL hx hn).mono ?_
    rintro e w' ⟨rfl, hm, ht⟩
    exact ⟨rfl, rx_k hk hm ht⟩
theorem mload_be (mb gb a : Nat) (pl : Nat → Nat) (L : List Pz) (n : Int) (w : World) (h : MA w mb gb pl L) (ha : a < 18446744073709551616) :
    Calls Try.prog 23 #[.pointer (some ⟨mb, 0, none⟩), .int .u64 a, .int .i64 n] w fun e w' => e = .returned (.tuple #[.int .u64 (loV L a n), .int .i64 (loE L a n)]) ∧ Below w.heap.size w w' := by
  unfold loV loE
  cases hn : isSizeB n with
  | false =>
    rw [if_neg (by decide), if_neg (by decide)]
    refine (load_bad mb gb a n w h.mcell hn).mono ?_
    rintro e w' ⟨rfl, rfl⟩
    exact ⟨rfl, Below.refl _ _⟩
  | true =>
    rw [if_pos rfl, if_pos rfl]
    obtain ⟨m, rfl⟩ := size_nat hn
    rw [Int.toNat_natCast]
    refine (load_any mb gb a m pl L w h ha hn).mono ?_
    rintro e w' ⟨rfl, hb⟩
    refine ⟨?_, hb⟩
    split <;> rfl
theorem rload_be (rb a : Nat) (lv : Value) (pb : Nat → Nat) (L : List Pz) (n : Int) (w : World) (h : RA w rb lv pb L) (ha : a < 18446744073709551616) (hL : L.length ≤ 1048576) :
    Calls Try.prog 33 #[.pointer (some ⟨rb, 0, none⟩), .int .u64 a, .int .i64 n] w fun e w' => e = .returned (.tuple #[.int .u64 (loV L a n), .int .i64 (loE L a n)]) ∧ Below w.heap.size w w' := by
  unfold loV loE
  cases hn : isSizeB n with
  | false =>
    rw [if_neg (by decide), if_neg (by decide)]
    refine (rload_bad rb a n w hn).mono ?_
    rintro e w' ⟨rfl, rfl⟩
    exact ⟨rfl, Below.refl _ _⟩
  | true =>
    rw [if_pos rfl, if_pos rfl]
    obtain ⟨m, rfl⟩ := size_nat hn
    rw [Int.toNat_natCast]
    refine (rload_any rb a m lv pb L w h ha hL hn).mono ?_
    rintro e w' ⟨rfl, hb⟩
    refine ⟨?_, hb⟩
    split <;> rfl
end Go.Proofs.Ytpfmnopokfiheaa
