/- Tables of lines, plainly: which may be, their bytes. -/
import Derived.Test.YtbhdledlahbokaaLBase
namespace Go.Proofs.Ytbhdledlahbokaa
set_option linter.unusedVariables false
set_option linter.unusedSimpArgs false

/-- A fact that no tactic looks into till it is opened. -/
structure Hid (p : Prop) : Prop where
  out : p
/-- A row, a sequence, a program. -/
structure Lr where
  at' : Int
  fi : Int
  li : Int
  co : Int
  deriving DecidableEq
structure Sq where
  st : Int
  sz : Int
  rows : List Lr
  deriving DecidableEq
structure Pg where
  files : List ByteArray
  seqs : List Sq
def Lr.zero : Lr := ⟨0, 0, 0, 0⟩
def Lr.first : Lr := ⟨0, 1, 1, 0⟩
def Sq.zero : Sq := ⟨0, 0, []⟩

def inB (n lo hi : Int) : Bool := decide (lo ≤ n) && decide (n ≤ hi)
/-- Has a name a byte 0? -/
def zeroB (s : ByteArray) : Bool := s.data.toList.any (· == 0)
def fileB (s : ByteArray) : Bool := inB (s.size : Int) 1 255 && !zeroB s
def filesB (l : List ByteArray) : Bool := decide (l.length ≤ 255) && l.all fileB
def rowB1 (least size n : Int) (r : Lr) : Bool := inB r.at' least size && (inB r.fi 1 n && (inB r.li 0 2147483647 && inB r.co 0 65535))
def rowsF (size n : Int) : Int → List Lr → Bool
  | _, [] => true
  | least, r :: t => rowB1 least size n r && rowsF size n r.at' t
def rowsB (l : List Lr) (size n : Int) : Bool := inB (l.length : Int) 1 4000 && rowsF size n 0 l
def seqB (n : Int) (q : Sq) : Bool := inB q.st 0 4611686018427387904 && (inB q.sz 0 1048576 && rowsB q.rows q.sz n)
def seqsB (l : List Sq) (n : Int) : Bool := decide (l.length ≤ 64) && l.all (seqB n)
def checkB (p : Pg) : Bool := filesB p.files && seqsB p.seqs (p.files.length : Int)
def checkE (p : Pg) : Int := if checkB p then 0 else 150

theorem inB_of {n lo hi : Int} (h : inB n lo hi = true) : lo ≤ n ∧ n ≤ hi := by
  simpa [inB] using h
/-- The place of the row that is last, or of none. -/
def lastAt (a : Int) (l : List Lr) : Int := match l.getLast? with | some r => r.at' | none => a
theorem rowsF_append (size n : Int) : ∀ (a : Int) (l m : List Lr), rowsF size n a (l ++ m) = (rowsF size n a l && rowsF size n (lastAt a l) m)
  | a, [], m => by simp [rowsF, lastAt]
  | a, r :: l, m => by
    have ih := rowsF_append size n r.at' l m
    simp only [List.cons_append, rowsF, ih, Bool.and_assoc]
    have : lastAt a (r :: l) = lastAt r.at' l := by
      unfold lastAt
      cases l with
      | nil => rfl
      | cons x l => rw [List.getLast?_cons_cons]; cases h : (x :: l).getLast? <;> simp_all
    rw [this]

/-! Bytes. -/
def spec (a l : Int) : Int := l + 5 + 14 * a + 13
def advR (a l : Int) : List Int := if spec a l ≤ 255 then [spec a l] else if 17 ≤ a ∧ spec (a - 17) l ≤ 255 then [8, spec (a - 17) l] else 2 :: (ulB a ++ [spec 0 l])
def tailR (a l : Int) : List Int := if inB l (-5) 8 then advR a l else 3 :: (sl l ++ advR a 0)
def fileR (s r : Lr) : List Int := if r.fi = s.fi then [] else 4 :: ulB r.fi
def colR (s r : Lr) : List Int := if r.co = s.co then [] else 5 :: ulB r.co
def rowR (s r : Lr) : List Int := fileR s r ++ (colR s r ++ tailR (r.at' - s.at') (r.li - s.li))
def rowsR : Lr → List Lr → List Int
  | _, [] => []
  | s, r :: t => rowR s r ++ rowsR r t
def lastR (s : Lr) (l : List Lr) : Lr := (l.getLast?).getD s
def restR (n : Int) : List Int := if n = 0 then [] else 2 :: ulB n
def seqR (q : Sq) : List Int := [0, 9, 2] ++ (pl q.st 8 ++ (rowsR Lr.first q.rows ++ (restR (q.sz - (lastR Lr.first q.rows).at') ++ [0, 1, 1])))
def cmdR (l : List Sq) : List Int := l.flatMap seqR
def namesR (l : List ByteArray) : List Int := l.flatMap fun s => bts s ++ [0]
def always : List Int := [1, 1, 1, 251, 14, 13, 0, 1, 1, 1, 1, 0, 0, 0, 1, 0, 0, 1, 1, 1, 8, 1, 0, 1, 1, 8]
def behindR (l : List ByteArray) : List Int := always ++ (ulB (l.length : Int) ++ namesR l)
def headR (l : List ByteArray) (n : Int) : List Int := pl (8 + ((behindR l).length : Int) + n) 4 ++ ([5, 0, 8, 0] ++ (pl ((behindR l).length : Int) 4 ++ behindR l))
def unitR (p : Pg) : List Int := headR p.files ((cmdR p.seqs).length : Int) ++ cmdR p.seqs
/-- Where each Start stands, behind so many bytes. -/
def atsF : Int → List Sq → List Int
  | _, [] => []
  | k, q :: t => (k + 3) :: atsF (k + ((seqR q).length : Int)) t
def bigB (p : Pg) : Bool := decide (1048576 < (unitR p).length)
def wriE (p : Pg) : Int := if checkB p then (if bigB p then 6 else 0) else 150
def wriB (p : Pg) : List Int := if wriE p = 0 then unitR p else []
def wriA (p : Pg) : List Int := if wriE p = 0 then atsF ((headR p.files ((cmdR p.seqs).length : Int)).length : Int) p.seqs else []

theorem rowsR_append : ∀ (s : Lr) (l m : List Lr), rowsR s (l ++ m) = rowsR s l ++ rowsR (lastR s l) m
  | s, [], m => rfl
  | s, r :: l, m => by
    have ih := rowsR_append r l m
    have : lastR s (r :: l) = lastR r l := by
      unfold lastR
      cases l with
      | nil => rfl
      | cons x l => rw [List.getLast?_cons_cons]; cases h : (x :: l).getLast? <;> simp_all
    rw [this]
    simp only [List.cons_append, rowsR, ih, List.append_assoc]
theorem lastR_snoc (s : Lr) (l : List Lr) (r : Lr) : lastR s (l ++ [r]) = r := by simp [lastR]
theorem lastAt_eq (s : Lr) (l : List Lr) : lastAt s.at' l = (lastR s l).at' := by
  unfold lastAt lastR; cases l.getLast? <;> rfl
theorem atsF_append : ∀ (k : Int) (l m : List Sq), atsF k (l ++ m) = atsF k l ++ atsF (k + ((cmdR l).length : Int)) m
  | k, [], m => by simp [atsF, cmdR]
  | k, q :: l, m => by
    have ih := atsF_append (k + ((seqR q).length : Int)) l m
    simp only [List.cons_append, atsF, ih, cmdR, List.flatMap_cons, List.length_append, Int.natCast_add, ← Int.add_assoc]
theorem atsF_len : ∀ (k : Int) (l : List Sq), (atsF k l).length = l.length
  | _, [] => rfl
  | k, q :: l => by simp [atsF, atsF_len]
theorem atsF_add : ∀ (k d : Int) (l : List Sq), (atsF k l).map (· + d) = atsF (k + d) l
  | _, _, [] => rfl
  | k, d, q :: l => by
    simp only [atsF, List.map_cons, atsF_add]
    rw [show k + 3 + d = k + d + 3 by omega, show k + ((seqR q).length : Int) + d = k + d + ((seqR q).length : Int) by omega]
theorem advR_len (a l : Int) : (advR a l).length ≤ 12 := by
  have := ulB_len a
  unfold advR
  repeat' split
  all_goals simp
  omega
theorem tailR_len {a l : Int} (h : -9223372036854775808 ≤ l ∧ l ≤ 9223372036854775807) : (tailR a l).length ≤ 23 := by
  have h1 := advR_len a l
  have h2 := advR_len a 0
  have h3 := sl_len10 l h
  unfold tailR
  split
  · omega
  · simp only [List.length_cons, List.length_append]; omega
theorem rowR_len {s r : Lr} (h : -9223372036854775808 ≤ r.li - s.li ∧ r.li - s.li ≤ 9223372036854775807) : (rowR s r).length ≤ 45 := by
  have h1 := tailR_len (a := r.at' - s.at') h
  have h2 := ulB_len r.fi
  have h3 := ulB_len r.co
  unfold rowR fileR colR
  split <;> split <;> simp only [List.length_append, List.length_cons, List.length_nil] <;> omega
theorem restR_len (n : Int) : (restR n).length ≤ 11 := by
  have := ulB_len n
  unfold restR
  split <;> simp; omega
/-- Rows that may be: lines. -/
def LinesOk (l : List Lr) : Prop := ∀ r ∈ l, 0 ≤ r.li ∧ r.li ≤ 2147483647
theorem rowsF_lines {size n : Int} : ∀ {a : Int} {l : List Lr}, rowsF size n a l = true → ∀ r ∈ l, (0 ≤ r.li ∧ r.li ≤ 2147483647) ∧ (0 ≤ r.co ∧ r.co ≤ 65535) ∧ (1 ≤ r.fi ∧ r.fi ≤ n) ∧ a ≤ r.at' ∧ r.at' ≤ size
  | a, [], _, r, hr => by cases hr
  | a, x :: l, h, r, hr => by
    simp only [rowsF, rowB1, Bool.and_eq_true] at h
    have h1 := inB_of h.1.1
    have h2 := inB_of h.1.2.1
    have h3 := inB_of h.1.2.2.1
    have h4 := inB_of h.1.2.2.2
    rcases List.mem_cons.1 hr with rfl | hr
    · exact ⟨h3, h4, h2, h1.1, h1.2⟩
    · have := rowsF_lines h.2 r hr
      exact ⟨this.1, this.2.1, this.2.2.1, by omega, this.2.2.2.2⟩
theorem rowsR_len : ∀ (s : Lr) (l : List Lr), (0 ≤ s.li ∧ s.li ≤ 2147483647) → LinesOk l → (rowsR s l).length ≤ 45 * l.length
  | _, [], _, _ => by simp [rowsR]
  | s, r :: l, hs, h => by
    have hr := h r (by simp)
    have ih := rowsR_len r l hr (fun x hx => h x (by simp [hx]))
    have := rowR_len (s := s) (r := r) (by omega)
    simp only [rowsR, List.length_append, List.length_cons]
    omega
theorem seqR_len {q : Sq} (h : LinesOk q.rows) : (seqR q).length ≤ 45 * q.rows.length + 25 := by
  have h1 := rowsR_len Lr.first q.rows (by decide) h
  have h2 := restR_len (q.sz - (lastR Lr.first q.rows).at')
  have h3 := pl_len q.st 8
  unfold seqR
  simp only [List.length_append, List.length_cons, List.length_nil, h3]
  omega
theorem seq_ok {n : Int} {q : Sq} (h : seqB n q = true) : (0 ≤ q.st ∧ q.st ≤ 4611686018427387904) ∧ (0 ≤ q.sz ∧ q.sz ≤ 1048576) ∧ (1 ≤ q.rows.length ∧ q.rows.length ≤ 4000) ∧ rowsF q.sz n 0 q.rows = true := by
  simp only [seqB, rowsB, Bool.and_eq_true] at h
  have h3 := inB_of h.2.2.1
  exact ⟨inB_of h.1, inB_of h.2.1, by omega, h.2.2.2⟩
theorem seqR_short {n : Int} {q : Sq} (h : seqB n q = true) : (seqR q).length ≤ 200000 := by
  obtain ⟨_, _, h3, h4⟩ := seq_ok h
  have := seqR_len (q := q) (fun r hr => (rowsF_lines h4 r hr).1)
  omega
theorem cmdR_len {n : Int} : ∀ {l : List Sq}, l.all (seqB n) = true → (cmdR l).length ≤ 200000 * l.length
  | [], _ => by simp [cmdR]
  | q :: l, h => by
    simp only [List.all_cons, Bool.and_eq_true] at h
    have := seqR_short h.1
    have ih := cmdR_len h.2
    simp only [cmdR, List.flatMap_cons, List.length_append, List.length_cons] at ih ⊢
    omega
theorem namesR_len : ∀ {l : List ByteArray}, l.all fileB = true → (namesR l).length ≤ 256 * l.length
  | [], _ => by simp [namesR]
  | s :: l, h => by
    simp only [List.all_cons, Bool.and_eq_true, fileB] at h
    have h1 := inB_of h.1.1
    have ih := namesR_len h.2
    simp only [namesR, List.flatMap_cons, List.length_append, List.length_cons, List.length_nil, bts_len] at ih ⊢
    omega
end Go.Proofs.Ytbhdledlahbokaa
