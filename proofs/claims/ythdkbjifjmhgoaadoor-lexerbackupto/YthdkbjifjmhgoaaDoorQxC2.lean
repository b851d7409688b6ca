/- Lines, plainly: how far a line has been cut. -/
import Derived.Test.YthdkbjifjmhgoaaDoorQxC
namespace Go.Proofs.YthdkbjifjmhgoaaDoor
open Go.ChangeShapes Go.WideShapes Go.ChangeAt Go.RowKit
set_option linter.unusedVariables false
set_option linter.unusedSimpArgs false

/-- So far: ts has been cut; L is left of the line. -/
def LF (L : List UInt8) (X : Option (List Tok)) (ts : List Tok) : Prop := ∃ n, L.length < n ∧ X = (lineF n L).map (ts ++ ·)
theorem LF.start (L : List UInt8) : LF L (lineF (L.length + 1) L) [] := ⟨L.length + 1, by omega, by cases lineF (L.length + 1) L <;> simp⟩
theorem lineF_c (n : Nat) (c : UInt8) (r : List UInt8) : lineF (n + 1) (c :: r) = if c = 35 then some [] else if c = 32 ∨ c = 9 then lineF n r else match oneM (c :: r) with | none => none | some (t, k) => (lineF n ((c :: r).drop k)).map (t :: ·) := rfl
theorem LF.stop {X : Option (List Tok)} {ts : List Tok} (h : LF [] X ts) : X = some ts := by
  obtain ⟨n, hn, rfl⟩ := h
  cases n with
  | zero => simp at hn
  | succ n => show (some []).map (ts ++ ·) = _; simp
theorem LF.hash {r : List UInt8} {X : Option (List Tok)} {ts : List Tok} (h : LF (35 :: r) X ts) : X = some ts := by
  obtain ⟨n, hn, rfl⟩ := h
  cases n with
  | zero => simp at hn
  | succ n => rw [lineF_c, if_pos rfl]; simp
theorem LF.none {c : UInt8} {r : List UInt8} {X : Option (List Tok)} {ts : List Tok} (h : LF (c :: r) X ts) (h35 : ¬ c = 35) (hb : ¬ (c = 32 ∨ c = 9)) (ho : oneM (c :: r) = Option.none) : X = Option.none := by
  obtain ⟨n, hn, rfl⟩ := h
  cases n with
  | zero => simp at hn
  | succ n => rw [lineF_c, if_neg h35, if_neg hb, ho]; rfl
theorem LF.step {c : UInt8} {r : List UInt8} {X : Option (List Tok)} {ts : List Tok} (h : LF (c :: r) X ts) (h35 : ¬ c = 35) (hb : ¬ (c = 32 ∨ c = 9)) {t : Tok} {k : Nat} (ho : oneM (c :: r) = some (t, k)) : LF ((c :: r).drop k) X (ts ++ [t]) := by
  obtain ⟨n, hn, rfl⟩ := h
  have hk := one_len ho
  cases n with
  | zero => simp at hn
  | succ n =>
    refine ⟨n, by rw [List.length_drop]; omega, ?_⟩
    rw [lineF_c, if_neg h35, if_neg hb, ho]
    simp only [Option.map_map]
    congr 1
    funext x
    simp
theorem LF.blank : ∀ {L : List UInt8} {X : Option (List Tok)} {ts : List Tok}, LF L X ts → LF (L.drop (runN 1 L)) X ts
  | [], X, ts, h => h
  | c :: r, X, ts, h => by
    by_cases hb : c = 32 ∨ c = 9
    · have h1 : LF r X ts := by
        obtain ⟨n, hn, rfl⟩ := h
        cases n with
        | zero => simp at hn
        | succ n =>
          refine ⟨n, by simpa using hn, ?_⟩
          rw [lineF_c, if_neg (by rcases hb with rfl | rfl <;> decide), if_pos hb]
      have hr : runN 1 (c :: r) = runN 1 r + 1 := by
        rw [run_eq 1 (fun c => c == 32 || c == 9) kB_blank, run_eq 1 (fun c => c == 32 || c == 9) kB_blank, List.takeWhile_cons]
        have : (c == 32 || c == 9) = true := by simpa using hb
        rw [this]; simp
      rw [hr, List.drop_succ_cons]
      exact LF.blank h1
    · have hr : runN 1 (c :: r) = 0 := by
        rw [run_eq 1 (fun c => c == 32 || c == 9) kB_blank, List.takeWhile_cons]
        have : (c == 32 || c == 9) = false := by simpa using hb
        rw [this]; simp
      rw [hr]; exact h
theorem blank_head {L : List UInt8} {c : UInt8} {r : List UInt8} (h : L.drop (runN 1 L) = c :: r) : ¬ (c = 32 ∨ c = 9) := by
  have := run_stop (K := 1) (by omega) L
  rw [h] at this
  have h1 : kB 1 (zOf c) = false := this
  rw [kB_blank] at h1
  simpa using h1

/-- What becomes of the whole once a line has been cut. -/
theorem cut_line {s : ByteArray} {a j : Nat} {acc : List TL} {C : Except Int (List TL)} (h : a < s.size) (hC : C = cutF (linesM ((lo s).drop a)) (j + 1) acc) {X : Option (List Tok)} (hX : X = lineF ((Ln s a).length + 1) (Ln s a)) :
    (X = none → C = .error ((j + 1 : Nat) : Int)) ∧ (∀ ts, X = some ts → C = cutF (linesM ((lo s).drop (a + (Ln s a).length + 1))) (j + 1 + 1) (acc ++ (if ts = [] then [] else ts ++ [(⟨6, 0, []⟩ : Tok)]).map fun t => (t, ((j + 1 : Nat) : Int)))) := by
  rw [lines_Ln h] at hC
  have hc : cutF (Ln s a :: linesM ((lo s).drop (a + (Ln s a).length + 1))) (j + 1) acc = match lineM (Ln s a) with | none => .error ((j + 1 : Nat) : Int) | some ts => cutF (linesM ((lo s).drop (a + (Ln s a).length + 1))) (j + 1 + 1) (acc ++ ts.map fun t => (t, ((j + 1 : Nat) : Int))) := rfl
  rw [hc] at hC
  have hl : lineM (Ln s a) = X.map fun ts => if ts = [] then [] else ts ++ [⟨6, 0, []⟩] := by rw [hX]; rfl
  rw [hl] at hC
  constructor
  · intro e; rw [e] at hC; exact hC
  · intro ts e; rw [e] at hC; exact hC
end Go.Proofs.YthdkbjifjmhgoaaDoor
