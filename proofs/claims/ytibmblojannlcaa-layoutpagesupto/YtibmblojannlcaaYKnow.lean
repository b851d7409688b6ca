/- What must come, plainly; what a copy keeps. -/
import Derived.Test.YtibmblojannlcaaYOwn
namespace Go.Proofs.Ytibmblojannlcaa
open Go.ChangeShapes Go.WideShapes Go.ChangeAt Go.RowKit Go.Maps
set_option linter.unusedVariables false
set_option linter.unusedSimpArgs false

abbrev txt : ByteArray := ⟨#[46, 116, 101, 120, 116]⟩
abbrev kS (n : Nat) (da : Option Addr) : Sec := ⟨txt, 1, 6, 16, da, n, n, n, none, 0, 0⟩
abbrev kF (n : Nat) (da sa : Option Addr) : Fl := ⟨sa, 1, [kS n da], none, 0, []⟩
def kL (d1 s1 d2 s2 : Option Addr) : List Fl := [kF 3 d1 s1, kF 5 d2 s2]
theorem kL_out (d1 s1 d2 s2 : Option Addr) : (layS (kL d1 s1 d2 s2)).map (fun st => (st.outs.map (fun o => (o.nm, o.ty, o.fl)), st.outs.map (fun o => (o.al, o.ad, o.sz)), st.en, st.at' 0 0, st.at' 1 0, (segsL st.outs).length)) = some ([(txt, 1, 6)], [(16, 4096, 21)], 4117, 4096, 4112, 1) := by kernel_rfl

/-- What a copy keeps, file by file. -/
theorem kf_mem {l L : List Fl} (h : L.map Fl.kf = l.map Fl.kf) {g : Fl} (hg : g ∈ L) : ∃ f ∈ l, f.kf = g.kf := by
  have : g.kf ∈ l.map Fl.kf := by rw [← h]; exact List.mem_map.2 ⟨g, hg, rfl⟩
  obtain ⟨f, hf, e⟩ := List.mem_map.1 this
  exact ⟨f, hf, e⟩
theorem kf_sec {f g : Fl} (h : f.kf = g.kf) {s : Sec} (hs : s ∈ g.secs) : ∃ t ∈ f.secs, t.key = s.key := by
  have h1 : f.secs.map Sec.key = g.secs.map Sec.key := congrArg Prod.fst h
  have : s.key ∈ f.secs.map Sec.key := by rw [h1]; exact List.mem_map.2 ⟨s, hs, rfl⟩
  obtain ⟨t, ht, e⟩ := List.mem_map.1 this
  exact ⟨t, ht, e⟩
theorem kf_len {f g : Fl} (h : f.kf = g.kf) : f.secs.length = g.secs.length ∧ f.syms = g.syms := by
  have h1 := congrArg List.length (congrArg Prod.fst h)
  exact ⟨by simpa [Fl.kf] using h1, congrArg Prod.snd h⟩
theorem key_fields {s t : Sec} (h : s.key = t.key) : s.nm = t.nm ∧ s.ty = t.ty ∧ s.fl = t.fl ∧ s.al = t.al ∧ s.dn = t.dn ∧ s.sz = t.sz := by
  unfold Sec.key at h
  injection h with h1 h2 h3 h4 _ h6 _ h8
  exact ⟨h1, h2, h3, h4, h6, h8⟩
theorem kf_dnB {l L : List Fl} (h : L.map Fl.kf = l.map Fl.kf) (hd : DnB l) : DnB L := fun g hg s hs => by
  obtain ⟨f, hf, e⟩ := kf_mem h hg
  obtain ⟨t, ht, e2⟩ := kf_sec e hs
  have := hd f hf t ht
  rw [← (key_fields e2).2.2.2.2.1]; exact this
theorem kf_flB {f g : Fl} (h : f.kf = g.kf) (hb : FlB f) : FlB g := by
  obtain ⟨h1, h2⟩ := kf_len h
  refine ⟨by rw [← h1]; exact hb.ns, by rw [← h2]; exact hb.ny, fun s hs => ?_, by rw [← h2]; exact hb.zy⟩
  obtain ⟨t, ht, e⟩ := kf_sec h hs
  rw [← (key_fields e).1]
  exact hb.zs t ht
theorem socc_kf : ∀ (l L : List Fl), L.map Fl.kf = l.map Fl.kf → (L.flatMap (·.secs)).length = (l.flatMap (·.secs)).length ∧ (L.flatMap (·.syms)).length = (l.flatMap (·.syms)).length
  | [], [], _ => ⟨rfl, rfl⟩
  | [], _ :: _, h => by simp at h
  | _ :: _, [], h => by simp at h
  | f :: l, g :: L, h => by
    simp only [List.map_cons, List.cons.injEq] at h
    obtain ⟨h1, h2⟩ := kf_len h.1
    obtain ⟨h3, h4⟩ := socc_kf l L h.2
    have h5 := congrArg List.length h2
    simp only [List.flatMap_cons, List.length_append]
    omega
theorem occ_ln (l : List Fl) : (occ l).length = (l.flatMap (·.syms)).length := by
  refine snoc_ind (P := fun l => (occ l).length = (l.flatMap (·.syms)).length) rfl (fun l f ih => ?_) l
  rw [occ_snoc, List.length_append, ih]
  simp [ocs]
theorem kf_flsB {l L : List Fl} (h : L.map Fl.kf = l.map Fl.kf) (hb : FlsB l) : FlsB L := by
  have hl := congrArg List.length h
  simp only [List.length_map] at hl
  obtain ⟨h1, h2⟩ := socc_kf l L h
  refine ⟨by rw [hl]; exact hb.n, fun g hg => ?_, ?_, ?_⟩
  · obtain ⟨f, hf, e⟩ := kf_mem h hg
    exact kf_flB e (hb.each f hf)
  · have := hb.sum.1
    rw [occ_ln] at this ⊢
    omega
  · have := hb.sum.2
    omega
end Go.Proofs.Ytibmblojannlcaa
