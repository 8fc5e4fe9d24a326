/-
  What the row's list of variables gives besides: the powers of ten, the two errors, the table of trailing noughts; prefixes, texts and numbers that come in.
-/
import Derived.Test.YtkgedoedojkdkaaDoorL1
import Derived.Test.YtkgedoedojkdkaaDoorTa
import Derived.Lib.LaidTab
import Derived.Deep.DeepHandedRow
import Derived.Lib.SmallJoins
import Derived.ShutString
import Derived.ChangeOld
import Derived.Below
import Derived.Carry
set_option linter.unusedVariables false
set_option linter.unusedSimpArgs false
set_option maxRecDepth 100000
namespace Go.Proofs.YtkgedoedojkdkaaDoor
open Go.ChangeShapes Go.WideShapes Go.ChangeAt Go.RowKit Go.Joins Go.Deep Go.WideMaps Go.WideElems
variable {w W : World} {sp : Nat → Bool} {held : Bool} {fuel : Nat}
theorem csU64 : Tryd.prog.cellsOf 22 = 1 := by kernel_rfl
theorem csPow : Tryd.prog.cellsOf 105 = 20 := by kernel_rfl
theorem pow_data : (Rows.laid_internal_strconv_uint64pow10 : DataW Unit) = Lib.tabData .u64 Lib.pow10Tab := by kernel_rfl
theorem pow_of {cs : Array Value} {p : List MemPlace} (h : DataW.trod (fun _ => ()) Tryd.prog W 0 sp held fuel 105 cs.toList = some (Rows.laid_internal_strconv_uint64pow10, p)) : cs = powCells := by
  rw [pow_data] at h
  have := Lib.cells_of_tab Tryd.underlying105 Tryd.underlying22 csU64 csPow h
  have e : cs = cs.toList.toArray := by simp
  rw [e, this]; rfl
def debName : String := ((Rows.primTellsRow.laid.map (·.1))[1]?).getD default
def powName : String := ((Rows.primTellsRow.laid.map (·.1))[2]?).getD default
def rngName : String := ((Rows.primTellsRow.laid.map (·.1))[4]?).getD default
def synName : String := ((Rows.primTellsRow.laid.map (·.1))[5]?).getD default
theorem gPow : Tryd.prog.globalNamed powName = some 2 := by kernel_rfl
theorem gRng : Tryd.prog.globalNamed rngName = some 7 := by kernel_rfl
theorem gSyn : Tryd.prog.globalNamed synName = some 6 := by kernel_rfl
theorem gDeb : Tryd.prog.globalNamed debName = some 5 := by kernel_rfl
theorem tPow : (Tryd.prog.globals[2]?).map (·.type) = some 105 := by kernel_rfl
theorem tRng : (Tryd.prog.globals[7]?).map (·.type) = some 93 := by kernel_rfl
theorem tSyn : (Tryd.prog.globals[6]?).map (·.type) = some 93 := by kernel_rfl
theorem tDeb : (Tryd.prog.globals[5]?).map (·.type) = some 125 := by kernel_rfl
theorem iface_gen {P : Program} {t : TypeId} {ms : Array (String × TypeId)} (hu : P.underlying t = some (.interface ms)) {l : List Value} {nm : String} {d : DataW Unit} {p : List MemPlace} (h : DataW.trod (fun _ => ()) P w 0 sp held fuel t l = some (.iface nm d, p)) : ∃ u v, l = [.iface u v] := by
  cases fuel with
  | zero => simp [DataW.trod] at h
  | succ n =>
    unfold DataW.trod at h
    rw [hu] at h
    split at h <;> simp_all
theorem iface_of {cs : Array Value} {nm : String} {d : DataW Unit} {p : List MemPlace} (h : DataW.trod (fun _ => ()) Tryd.prog w 0 sp held fuel 93 cs.toList = some (.iface nm d, p)) : ∃ u v, cs = #[.iface u v] := by
  obtain ⟨u, v, e⟩ := iface_gen Tryd.underlying93 h
  exact ⟨u, v, by cases cs; simp_all⟩
theorem three_of {l : List (String × DataW Unit)} (hl : (l.filter fun x => x.1 == powName || x.1 == rngName || x.1 == synName) = [(powName, Rows.laid_internal_strconv_uint64pow10), (rngName, Rows.laid_strconv_ErrRange), (synName, Rows.laid_strconv_ErrSyntax)])
    (hL : laidMetH Tryd.prog l w) : PowAt w ∧ ErrsAt w := by
  have hF := hL.filter (fun x => x.1 == powName || x.1 == rngName || x.1 == synName)
  rw [hl, MakeChecks.laidMetH_plain _ _ _ (by kernel_rfl)] at hF
  obtain ⟨ps, ⟨gx, tx, csx, fx, px, qx, hgx, htx, hvx, hdx, ⟨g0, t0, cs0, f0, p0, q0, hg0, ht0, hv0, hd0, ⟨g1, t1, cs1, f1, p1, q1, hg1, ht1, hv1, hd1, _, _⟩, _⟩, _⟩, _, _⟩ := hF
  obtain rfl := Option.some.inj (gPow.symm.trans hgx)
  obtain rfl := Option.some.inj (tPow.symm.trans htx)
  obtain rfl := Option.some.inj (gRng.symm.trans hg0)
  obtain rfl := Option.some.inj (gSyn.symm.trans hg1)
  obtain rfl := Option.some.inj (tRng.symm.trans ht0)
  obtain rfl := Option.some.inj (tSyn.symm.trans ht1)
  obtain rfl := pow_of hdx
  obtain ⟨u0, x0, rfl⟩ := iface_of hd0
  obtain ⟨u1, x1, rfl⟩ := iface_of hd1
  obtain ⟨t2, fr2, h2⟩ := heap_of_var gSyn hv1
  obtain ⟨t3, fr3, h3⟩ := heap_of_var gRng hv0
  exact ⟨heap_of_var gPow hvx, ⟨u1, x1, t2, fr2, h2⟩, ⟨u0, x0, t3, fr3, h3⟩⟩
theorem csU8 : Tryd.prog.cellsOf 5 = 1 := by kernel_rfl
theorem csDeb : Tryd.prog.cellsOf 125 = 64 := by kernel_rfl
def debTab : List Int := [0, 1, 56, 2, 57, 49, 28, 3, 61, 58, 42, 50, 38, 29, 17, 4, 62, 47, 59, 36, 45, 43, 51, 22, 53, 39, 33, 30, 24, 18, 12, 5, 63, 55, 48, 27, 60, 41, 37, 16, 46, 35, 44, 21, 52, 32, 23, 11, 54, 26, 40, 15, 34, 20, 31, 10, 25, 14, 19, 9, 13, 8, 7, 6]
theorem deb_data : (Rows.laid_math_bits_deBruijn64tab : DataW Unit) = Lib.tabData .u8 debTab := by kernel_rfl
theorem deb_of {cs : Array Value} {p : List MemPlace} (h : DataW.trod (fun _ => ()) Tryd.prog W 0 sp held fuel 125 cs.toList = some (Rows.laid_math_bits_deBruijn64tab, p)) : cs[15]? = some (.int .u8 4) := by
  rw [deb_data] at h
  have := Lib.cells_of_tab Tryd.underlying125 Tryd.underlying5 csU8 csDeb h
  have e : cs = cs.toList.toArray := by simp
  rw [e, this]; rfl
theorem deb_env {l : List (String × DataW Unit)} (hl : (l.filter fun x => x.1 == debName) = [(debName, Rows.laid_math_bits_deBruijn64tab)])
    (hL : laidMetH Tryd.prog l w) : Deb w := by
  have hF := hL.filter (fun x => x.1 == debName)
  rw [hl, MakeChecks.laidMetH_plain _ _ _ (by kernel_rfl)] at hF
  obtain ⟨ps, ⟨g0, t0, cs0, f0, p0, q0, hg0, ht0, hv0, hd0, _, _⟩, _, _⟩ := hF
  obtain rfl := Option.some.inj (gDeb.symm.trans hg0)
  obtain rfl := Option.some.inj (tDeb.symm.trans ht0)
  have hc := deb_of hd0
  obtain ⟨t2, fr2, h2⟩ := heap_of_var gDeb hv0
  unfold Deb
  simp [World.cell?, h2, hc]
/-- All that the row's list and the world's shape give. -/
theorem env_of {l : List (String × DataW Unit)} (h1 : (l.filter fun x => x.1 == famName || x.1 == styName) = [(famName, Rows.laid_herald_prim_families), (styName, Rows.laid_herald_prim_styles)])
    (h2 : (l.filter fun x => x.1 == powName || x.1 == rngName || x.1 == synName) = [(powName, Rows.laid_internal_strconv_uint64pow10), (rngName, Rows.laid_strconv_ErrRange), (synName, Rows.laid_strconv_ErrSyntax)])
    (h3 : (l.filter fun x => x.1 == debName) = [(debName, Rows.laid_math_bits_deBruijn64tab)])
    (hL : laidMetH Tryd.prog l w) (hsh : w.ShapedOpen Tryd.prog) : EnvT w ∧ ErrsAt w :=
  ⟨⟨tabs_of h1 hL hsh, (three_of h2 hL).1, deb_env h3 hL⟩, (three_of h2 hL).2⟩
theorem own : ownKnob Tryd.prog.godebug = none := by kernel_rfl
theorem laidOut : laidOutB Tryd.prog = true := by kernel_rfl
theorem cs24 : Tryd.prog.cellsOf 24 = 4 := by kernel_rfl
theorem cs3 : Tryd.prog.cellsOf 3 = 1 := by kernel_rfl
theorem cs9 : Tryd.prog.cellsOf 9 = 1 := by kernel_rfl
/-- A prefix that came in, opened. -/
theorem open_pfx {H : Type} {enc : TypeId × Value → H} {w : World} {base b0 : Nat} {sp : Nat → Bool} {held : Bool} {r : Reach} {v : Value} {d : DataW H} {ps : List MemPlace}
    (hval : Value.okWide Tryd.prog w r b0 24 v) (hd : DataW.Trod enc Tryd.prog w base sp held 24 v d ps) :
    ∃ (f rd : Int) (s : ByteArray) (l : Int), v = .agg #[.int .i64 f, .int .u64 rd, .string s, .int .i64 l] ∧ s.size ≤ maxLen ∧ (Lit.int .u64 rd).wf := by
  obtain ⟨cs, rfl, hc⟩ := okWide_struct Tryd.underlying24 hval
  rw [cs24] at hc
  obtain ⟨c0, c1, c2, c3, rfl⟩ := array4 hc
  obtain ⟨fuel, hf⟩ := hd
  obtain ⟨y0, y1, y2, y3, n, _, _, h0, h1, h2, h3⟩ := trod_struct4 Tryd.underlying24 hf
  obtain ⟨n0, e0, _, _⟩ := DataW.trod_int (k := .i64) Tryd.underlying3 h0
  obtain ⟨n1, e1, _, wf1⟩ := DataW.trod_int (k := .u64) Tryd.underlying22 h1
  obtain ⟨s2, e2, _, hs⟩ := DataW.trod_string Tryd.underlying9 h2
  obtain ⟨n3, e3, _, _⟩ := DataW.trod_int (k := .i64) Tryd.underlying3 h3
  rw [cs3] at e0 e3
  rw [csU64] at e1
  rw [cs9] at e2
  simp [Value.cells] at e0 e1 e2 e3
  exact ⟨n0, n1, s2, n3, by rw [e0, e1, e2, e3], hs, wf1⟩
end Go.Proofs.YtkgedoedojkdkaaDoor
