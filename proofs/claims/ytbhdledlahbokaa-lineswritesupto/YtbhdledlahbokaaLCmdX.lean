/- The commands of a unit, plainly: what each does, and that what is written is done as it was. What is written is done as it was. -/
import Derived.Test.YtbhdledlahbokaaLWri
namespace Go.Proofs.Ytbhdledlahbokaa
set_option linter.unusedVariables false
set_option linter.unusedSimpArgs false

inductive Ev where
  | row (r : Lr)
  | fin (st sz : Int)
/-- The state machine: how many bytes it has done, its row, where the sequence starts, rows told, sequences ended, whether it has ended; what was told. -/
structure Ms where
  at' : Nat
  row : Lr
  start : Int
  rows : Int
  seqs : Int
  ended : Bool
  evs : List Ev
inductive Cm where
  | beg (st : Int)
  | fil (n : Int)
  | col (n : Int)
  | lin (l : Int)
  | mst
  | adv (n : Int)
  | spc (a l : Int)
  | fin
def cmB : Cm → List Int
  | .beg st => [0, 9, 2] ++ pl st 8
  | .fil n => 4 :: ulB n
  | .col n => 5 :: ulB n
  | .lin l => 3 :: sl l
  | .mst => [8]
  | .adv n => 2 :: ulB n
  | .spc a l => [spec a l]
  | .fin => [0, 1, 1]
def cmE (m : Ms) : Cm → Ms
  | .beg st => { m with start := st }
  | .fil n => { m with row := { m.row with fi := n } }
  | .col n => { m with row := { m.row with co := n } }
  | .lin l => { m with row := { m.row with li := m.row.li + l } }
  | .mst => { m with row := { m.row with at' := m.row.at' + 17 } }
  | .adv n => { m with row := { m.row with at' := m.row.at' + n } }
  | .spc a l => { m with row := { m.row with at' := m.row.at' + a, li := m.row.li + l }, rows := m.rows + 1, evs := m.evs ++ [.row { m.row with at' := m.row.at' + a, li := m.row.li + l }] }
  | .fin => { m with seqs := m.seqs + 1, ended := true, evs := m.evs ++ [.fin m.start m.row.at'] }
def cmM (m : Ms) (c : Cm) : Ms := { cmE m c with at' := m.at' + (cmB c).length }
/-- May the command be done there? -/
def okC (m : Ms) : Cm → Prop
  | .beg st => (0 ≤ st ∧ st ≤ 4611686018427387904) ∧ m.rows = 0 ∧ m.row.at' = 0
  | .fil n => 0 ≤ n ∧ n ≤ 4611686018427387904
  | .col n => 0 ≤ n ∧ n ≤ 4611686018427387904
  | .lin l => (-2147483648 ≤ l ∧ l ≤ 2147483648) ∧ 0 ≤ m.row.li + l ∧ m.row.li + l ≤ 4611686018427387904
  | .mst => 0 ≤ m.row.at' ∧ m.row.at' + 17 ≤ 4611686018427387904
  | .adv n => (0 ≤ n ∧ n ≤ 4611686018427387904) ∧ 0 ≤ m.row.at' ∧ m.row.at' + n ≤ 4611686018427387904
  | .spc a l => (0 ≤ a ∧ -5 ≤ l ∧ l ≤ 8 ∧ spec a l ≤ 255) ∧ (0 ≤ m.row.at' ∧ m.row.at' + a ≤ 4611686018427387904) ∧ (0 ≤ m.row.li + l ∧ m.row.li + l ≤ 4611686018427387904) ∧ m.rows < 4000
  | .fin => True
structure Inv (m : Ms) : Prop where
  ev1 : m.evs.length ≤ m.at'
  ev2 : (m.evs.length : Int) ≤ 4001 * m.seqs + m.rows
  rows : 0 ≤ m.rows ∧ m.rows ≤ 4000
  seqs : 0 ≤ m.seqs ∧ m.seqs ≤ 64
  row : (0 ≤ m.row.at' ∧ m.row.at' ≤ 4611686018427387904) ∧ (0 ≤ m.row.li ∧ m.row.li ≤ 4611686018427387904)
theorem cmB_pos (c : Cm) : 1 ≤ (cmB c).length := by cases c <;> simp [cmB]
/-- A command that does not end the sequence. -/
def goesOn : Cm → Prop
  | .fin => False
  | _ => True
theorem inv_cm {m : Ms} {c : Cm} (h : Inv m) (hc : okC m c) (hg : goesOn c) (hs : m.seqs < 64) : Inv (cmM m c) ∧ (cmM m c).seqs = m.seqs ∧ (cmM m c).ended = m.ended := by
  obtain ⟨h1, h2, h3, h4, h5⟩ := h
  have hp := cmB_pos c
  cases c <;> simp only [okC, goesOn] at hc hg <;> refine ⟨⟨?_, ?_, ?_, ?_, ?_⟩, rfl, rfl⟩ <;> simp only [cmM, cmE, List.length_append, List.length_cons, List.length_nil] <;> first | omega | (simp only [cmB] at hp ⊢; simp; omega)

def runC : Ms → List Cm → Ms
  | m, [] => m
  | m, c :: t => runC (cmM m c) t
def okAll : Ms → List Cm → Prop
  | _, [] => True
  | m, c :: t => okC m c ∧ okAll (cmM m c) t
theorem runC_append : ∀ (m : Ms) (l k : List Cm), runC m (l ++ k) = runC (runC m l) k
  | _, [], _ => rfl
  | m, c :: l, k => runC_append (cmM m c) l k
theorem okAll_append : ∀ (m : Ms) (l k : List Cm), okAll m (l ++ k) ↔ okAll m l ∧ okAll (runC m l) k
  | _, [], _ => by simp [okAll, runC]
  | m, c :: l, k => by
    simp only [List.cons_append, okAll, runC, okAll_append (cmM m c) l k, and_assoc]
theorem runC_at : ∀ (m : Ms) (l : List Cm), (runC m l).at' = m.at' + (l.flatMap cmB).length
  | m, [] => by simp [runC]
  | m, c :: l => by
    simp only [runC, runC_at (cmM m c) l, List.flatMap_cons, List.length_append]
    simp only [cmM]; omega

/-! What is written. -/
def advC (a l : Int) : List Cm := if spec a l ≤ 255 then [.spc a l] else if 17 ≤ a ∧ spec (a - 17) l ≤ 255 then [.mst, .spc (a - 17) l] else [.adv a, .spc 0 l]
def tailC (a l : Int) : List Cm := if inB l (-5) 8 then advC a l else .lin l :: advC a 0
def rowC (s r : Lr) : List Cm := (if r.fi = s.fi then [] else [.fil r.fi]) ++ ((if r.co = s.co then [] else [.col r.co]) ++ tailC (r.at' - s.at') (r.li - s.li))
def rowsC : Lr → List Lr → List Cm
  | _, [] => []
  | s, r :: t => rowC s r ++ rowsC r t
def restC (n : Int) : List Cm := if n = 0 then [] else [.adv n]
/-- All but the end. -/
def bodyC (q : Sq) : List Cm := .beg q.st :: (rowsC Lr.first q.rows ++ restC (q.sz - (lastR Lr.first q.rows).at'))
def seqC (q : Sq) : List Cm := bodyC q ++ [.fin]
theorem advC_b (a l : Int) : (advC a l).flatMap cmB = advR a l := by
  unfold advC advR
  split
  · simp [cmB]
  · split <;> simp [cmB]
theorem tailC_b (a l : Int) : (tailC a l).flatMap cmB = tailR a l := by
  unfold tailC tailR
  split
  · exact advC_b a l
  · simp [cmB, advC_b]
theorem rowC_b (s r : Lr) : (rowC s r).flatMap cmB = rowR s r := by
  unfold rowC rowR fileR colR
  rw [List.flatMap_append, List.flatMap_append, tailC_b]
  split <;> split <;> simp [cmB]
theorem rowsC_b : ∀ (s : Lr) (l : List Lr), (rowsC s l).flatMap cmB = rowsR s l
  | _, [] => rfl
  | s, r :: l => by simp only [rowsC, rowsR, List.flatMap_append, rowC_b, rowsC_b r l]
theorem seqC_b (q : Sq) : (seqC q).flatMap cmB = seqR q := by
  unfold seqC bodyC seqR restC restR
  simp only [List.flatMap_append, List.flatMap_cons, List.flatMap_nil, rowsC_b, List.append_nil, List.cons_append]
  split <;> simp [cmB]

/-- The state at the row s, so many rows told. -/
structure OnRow (m : Ms) (s : Lr) : Prop where
  row : m.row = s
  rows : 0 ≤ m.rows
theorem goesOn_all {s r : Lr} : ∀ c ∈ rowC s r, goesOn c := by
  intro c hc
  unfold rowC tailC advC at hc
  repeat' (first | (rcases List.mem_append.1 hc with hc | hc) | (split at hc))
  all_goals
    simp at hc
    try (rcases hc with rfl | hc)
    all_goals first | trivial | (subst hc; trivial) | (rcases hc with rfl | rfl <;> trivial) | (rcases hc with rfl | rfl | rfl <;> trivial)

/-- A row was told. -/
structure Told (m m' : Ms) (r : Lr) : Prop where
  row : m'.row = r
  rows : m'.rows = m.rows + 1
  start : m'.start = m.start
  seqs : m'.seqs = m.seqs
  ended : m'.ended = m.ended
  evs : m'.evs = m.evs ++ [.row r]
theorem adv_run (m : Ms) (a l : Int) (ha : 0 ≤ a ∧ a ≤ 1048576) (hl : -5 ≤ l ∧ l ≤ 8) (hp : 0 ≤ m.row.at' ∧ m.row.at' ≤ 1048576) (hq : 0 ≤ m.row.li + l ∧ m.row.li + l ≤ 2147483647) (hr : 0 ≤ m.rows ∧ m.rows < 4000) :
    okAll m (advC a l) ∧ Told m (runC m (advC a l)) { m.row with at' := m.row.at' + a, li := m.row.li + l } := by
  unfold advC
  split
  · rename_i h
    exact ⟨⟨⟨⟨ha.1, hl.1, hl.2, h⟩, ⟨hp.1, by omega⟩, ⟨hq.1, by omega⟩, hr.2⟩, trivial⟩, ⟨rfl, rfl, rfl, rfl, rfl, rfl⟩⟩
  · split
    · rename_i h
      have e : ({ m.row with at' := m.row.at' + 17 + (a - 17), li := m.row.li + l } : Lr) = { m.row with at' := m.row.at' + a, li := m.row.li + l } := by
        rw [show m.row.at' + 17 + (a - 17) = m.row.at' + a by omega]
      refine ⟨⟨⟨hp.1, by omega⟩, ⟨⟨by omega, hl.1, hl.2, h.2⟩, ⟨?_, ?_⟩, ⟨hq.1, ?_⟩, hr.2⟩, trivial⟩, ⟨e, rfl, rfl, rfl, rfl, ?_⟩⟩
      · simp only [cmM, cmE]; omega
      · simp only [cmM, cmE]; omega
      · simp only [cmM, cmE]; omega
      · simp only [runC, cmM, cmE]; rw [e]
    · have e : ({ m.row with at' := m.row.at' + a + 0, li := m.row.li + l } : Lr) = { m.row with at' := m.row.at' + a, li := m.row.li + l } := by rw [Int.add_zero]
      refine ⟨⟨⟨⟨ha.1, by omega⟩, hp.1, by omega⟩, ⟨⟨by omega, hl.1, hl.2, ?_⟩, ⟨?_, ?_⟩, ⟨hq.1, ?_⟩, hr.2⟩, trivial⟩, ⟨e, rfl, rfl, rfl, rfl, ?_⟩⟩
      · unfold spec; omega
      · simp only [cmM, cmE]; omega
      · simp only [cmM, cmE]; omega
      · simp only [cmM, cmE]; omega
      · simp only [runC, cmM, cmE]; rw [e]
theorem tail_run (m : Ms) (a l : Int) (ha : 0 ≤ a ∧ a ≤ 1048576) (hp : 0 ≤ m.row.at' ∧ m.row.at' ≤ 1048576) (hm : 0 ≤ m.row.li ∧ m.row.li ≤ 2147483647) (hq : 0 ≤ m.row.li + l ∧ m.row.li + l ≤ 2147483647) (hr : 0 ≤ m.rows ∧ m.rows < 4000) :
    okAll m (tailC a l) ∧ Told m (runC m (tailC a l)) { m.row with at' := m.row.at' + a, li := m.row.li + l } := by
  unfold tailC
  split
  · rename_i h
    exact adv_run m a l ha (inB_of h) hp hq hr
  · have h := adv_run (cmM m (.lin l)) a 0 ha (by omega) hp (by simp only [cmM, cmE]; omega) hr
    have e : ({ (cmM m (.lin l)).row with at' := (cmM m (.lin l)).row.at' + a, li := (cmM m (.lin l)).row.li + 0 } : Lr) = { m.row with at' := m.row.at' + a, li := m.row.li + l } := by
      simp only [cmM, cmE, Int.add_zero]
    rw [e] at h
    exact ⟨⟨⟨by omega, hq.1, by omega⟩, h.1⟩, ⟨h.2.row, h.2.rows, h.2.start, h.2.seqs, h.2.ended, h.2.evs⟩⟩
theorem row_run (m : Ms) (s r : Lr) (hs : m.row = s) (st : Step s r) (hf : 0 ≤ r.fi ∧ r.fi ≤ 255) (hc : 0 ≤ r.co ∧ r.co ≤ 65535) (hr : 0 ≤ m.rows ∧ m.rows < 4000) : okAll m (rowC s r) ∧ Told m (runC m (rowC s r)) r := by
  obtain ⟨⟨h1, h2, h3⟩, hls, hlr⟩ := st
  subst hs
  obtain ⟨mm, hmm⟩ : ∃ mm, mm = runC m ((if r.fi = m.row.fi then [] else [Cm.fil r.fi]) ++ (if r.co = m.row.co then [] else [Cm.col r.co])) := ⟨_, rfl⟩
  have hok : okAll m ((if r.fi = m.row.fi then [] else [Cm.fil r.fi]) ++ (if r.co = m.row.co then [] else [Cm.col r.co])) := by
    split <;> split <;> simp only [List.nil_append, List.append_nil, List.singleton_append, okAll, okC, and_true] <;> omega
  have hrow : mm.row = { m.row with fi := r.fi, co := r.co } ∧ mm.rows = m.rows ∧ mm.start = m.start ∧ mm.seqs = m.seqs ∧ mm.ended = m.ended ∧ mm.evs = m.evs := by
    rw [hmm]
    split <;> split <;> simp_all [runC, cmM, cmE]
  obtain ⟨e1, e2, e3, e4, e5, e6⟩ := hrow
  have ht := tail_run mm (r.at' - m.row.at') (r.li - m.row.li) (by omega) (by rw [e1]; dsimp only; omega) (by rw [e1]; dsimp only; omega) (by rw [e1]; dsimp only; omega) (by rw [e2]; omega)
  have hrr : ({ mm.row with at' := mm.row.at' + (r.at' - m.row.at'), li := mm.row.li + (r.li - m.row.li) } : Lr) = r := by
    rw [e1]
    obtain ⟨ra, rf, rl, rc⟩ := r
    dsimp only
    rw [show m.row.at' + (ra - m.row.at') = ra by omega, show m.row.li + (rl - m.row.li) = rl by omega]
  rw [hrr] at ht
  have hrc : rowC m.row r = ((if r.fi = m.row.fi then [] else [Cm.fil r.fi]) ++ (if r.co = m.row.co then [] else [Cm.col r.co])) ++ tailC (r.at' - m.row.at') (r.li - m.row.li) := by
    unfold rowC; rw [List.append_assoc]
  generalize ((if r.fi = m.row.fi then [] else [Cm.fil r.fi]) ++ (if r.co = m.row.co then [] else [Cm.col r.co])) = P at *
  rw [hrc, okAll_append, runC_append, ← hmm]
  exact ⟨⟨hok, ht.1⟩, ⟨ht.2.row, by rw [ht.2.rows, e2], by rw [ht.2.start, e3], by rw [ht.2.seqs, e4], by rw [ht.2.ended, e5], by rw [ht.2.evs, e6]⟩⟩
/-- Rows that may follow s. -/
def Chain : Lr → List Lr → Prop
  | _, [] => True
  | s, r :: t => Step s r ∧ (0 ≤ r.fi ∧ r.fi ≤ 255) ∧ (0 ≤ r.co ∧ r.co ≤ 65535) ∧ Chain r t
theorem chain_of {sz n : Int} (hsz : sz ≤ 1048576) (hn : n ≤ 255) : ∀ (s : Lr) (l : List Lr), (0 ≤ s.at') → (0 ≤ s.li ∧ s.li ≤ 2147483647) → rowsF sz n s.at' l = true → Chain s l
  | _, [], _, _, _ => trivial
  | s, r :: l, h0, hl, h => by
    simp only [rowsF, rowB1, Bool.and_eq_true] at h
    have h1 := inB_of h.1.1
    have h2 := inB_of h.1.2.1
    have h3 := inB_of h.1.2.2.1
    have h4 := inB_of h.1.2.2.2
    exact ⟨⟨⟨h0, h1.1, by omega⟩, hl, h3⟩, by omega, h4, chain_of hsz hn r l (by omega) h3 h.2⟩
/-- Some rows were told. -/
structure Tolds (m m' : Ms) (s : Lr) (l : List Lr) : Prop where
  row : m'.row = lastR s l
  rows : m'.rows = m.rows + l.length
  start : m'.start = m.start
  seqs : m'.seqs = m.seqs
  ended : m'.ended = m.ended
  evs : m'.evs = m.evs ++ l.map .row
theorem rows_run : ∀ (l : List Lr) (m : Ms) (s : Lr), m.row = s → Chain s l → 0 ≤ m.rows → m.rows + l.length ≤ 4000 → okAll m (rowsC s l) ∧ Tolds m (runC m (rowsC s l)) s l
  | [], m, s, hs, _, _, _ => ⟨trivial, ⟨hs, by simp [runC, rowsC], rfl, rfl, rfl, by simp [runC, rowsC]⟩⟩
  | r :: l, m, s, hs, hc, h0, hn => by
    simp only [List.length_cons] at hn
    have h1 := row_run m s r hs hc.1 hc.2.1 hc.2.2.1 ⟨h0, by omega⟩
    have h2 := rows_run l (runC m (rowC s r)) r h1.2.row hc.2.2.2 (by rw [h1.2.rows]; omega) (by rw [h1.2.rows]; omega)
    have e : lastR s (r :: l) = lastR r l := by
      unfold lastR
      cases l with
      | nil => rfl
      | cons x l => rw [List.getLast?_cons_cons]; cases h : (x :: l).getLast? <;> simp_all
    simp only [rowsC]
    rw [okAll_append, runC_append]
    refine ⟨⟨h1.1, h2.1⟩, ⟨by rw [h2.2.row, e], ?_, by rw [h2.2.start, h1.2.start], by rw [h2.2.seqs, h1.2.seqs], by rw [h2.2.ended, h1.2.ended], ?_⟩⟩
    · rw [h2.2.rows, h1.2.rows]; simp; omega
    · rw [h2.2.evs, h1.2.evs]; simp
/-- The state that a sequence begins with. -/
def begM (m : Ms) : Ms := { m with row := Lr.first, start := 0, rows := 0, ended := false }
def seqEv (q : Sq) : List Ev := q.rows.map .row ++ [.fin q.st q.sz]
theorem body_run (m : Ms) (q : Sq) (n : Int) (hq : seqB n q = true) (hn : n ≤ 255) :
    okAll (begM m) (bodyC q) ∧ (let m' := runC (begM m) (bodyC q); m'.start = q.st ∧ m'.row.at' = q.sz ∧ m'.seqs = m.seqs ∧ m'.ended = false ∧ m'.evs = m.evs ++ q.rows.map .row) := by
  obtain ⟨h1, h2, h3, h4⟩ := seq_ok hq
  have hC : Chain Lr.first q.rows := chain_of (sz := q.sz) (n := n) h2.2 hn Lr.first q.rows (by decide) (by decide) h4
  have hr := rows_run q.rows (cmM (begM m) (.beg q.st)) Lr.first rfl hC (by simp [cmM, cmE, begM]) (by simp only [cmM, cmE, begM]; omega)
  have hla : (lastR Lr.first q.rows).at' ≤ q.sz ∧ 0 ≤ (lastR Lr.first q.rows).at' := by
    rcases last_in q.rows with ⟨h0, h⟩ | h
    · rw [h]; exact ⟨h2.1, by decide⟩
    · have := rowsF_lines h4 _ h; omega
  unfold bodyC
  generalize hM : runC (cmM (begM m) (.beg q.st)) (rowsC Lr.first q.rows) = M at *
  have hA : okAll M (restC (q.sz - (lastR Lr.first q.rows).at')) ∧ (runC M (restC (q.sz - (lastR Lr.first q.rows).at'))).start = M.start ∧ (runC M (restC (q.sz - (lastR Lr.first q.rows).at'))).row.at' = q.sz ∧ (runC M (restC (q.sz - (lastR Lr.first q.rows).at'))).seqs = M.seqs ∧ (runC M (restC (q.sz - (lastR Lr.first q.rows).at'))).ended = M.ended ∧ (runC M (restC (q.sz - (lastR Lr.first q.rows).at'))).evs = M.evs := by
    have hrow := hr.2.row
    unfold restC
    split
    · rename_i h0
      refine ⟨trivial, rfl, ?_, rfl, rfl, rfl⟩
      show M.row.at' = q.sz
      rw [hrow]; omega
    · refine ⟨⟨⟨⟨by omega, by omega⟩, by rw [hrow]; exact hla.2, by rw [hrow]; omega⟩, trivial⟩, rfl, ?_, rfl, rfl, rfl⟩
      simp only [runC, cmM, cmE]
      rw [hrow]; omega
  refine ⟨⟨⟨h1, rfl, rfl⟩, ?_⟩, ?_⟩
  · rw [okAll_append, hM]
    exact ⟨hr.1, hA.1⟩
  · simp only [runC, runC_append, hM]
    exact ⟨by rw [hA.2.1, hr.2.start]; rfl, hA.2.2.1, by rw [hA.2.2.2.1, hr.2.seqs]; rfl, by rw [hA.2.2.2.2.1, hr.2.ended]; rfl, by rw [hA.2.2.2.2.2, hr.2.evs]; rfl⟩
theorem goes_body {q : Sq} : ∀ c ∈ bodyC q, goesOn c := by
  have hrows : ∀ (l : List Lr) (s : Lr), ∀ c ∈ rowsC s l, goesOn c := by
    intro l
    induction l with
    | nil => intro s c hc; cases hc
    | cons r l ih =>
      intro s c hc
      rcases List.mem_append.1 hc with hc | hc
      · exact goesOn_all c hc
      · exact ih r c hc
  intro c hc
  unfold bodyC restC at hc
  rcases List.mem_cons.1 hc with rfl | hc
  · trivial
  · rcases List.mem_append.1 hc with hc | hc
    · exact hrows _ _ c hc
    · split at hc
      · cases hc
      · rcases List.mem_cons.1 hc with rfl | hc
        · trivial
        · cases hc
end Go.Proofs.Ytbhdledlahbokaa
