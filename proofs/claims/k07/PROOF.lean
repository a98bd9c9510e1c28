import PyProof.Rows.All
import Wide.All
import OpenK.AllK
import Wide.FinOn
import HandS.ForMost
import HandS.Wide
import HandS.IsInst
import HandS.Codes
import HandS.AnyAll
import HandS.EndTab
import PyProof.GenCompD
import HandS.TupMul
import HandS.TupAny
import HandS.Exc
import HandS.TryOnly
import HandS.ExcOwn
import HandS.WordsExc
import HandS.ExcIs
import KE.DataCmp
import KE.GoesMore
import HandS.Conv
import HandS.Style
import HandS.WideBits
import HandS.Zip
import KE.KRevSl
import PySem.Challenge.RW_traymap_k07_fillings_turned
set_option Elab.async false
set_option linter.all false
set_option maxRecDepth 100000
namespace Tm
open PySem PySem.Spec PyProof.Rows L2
/-! ### what leaves all that stood -/
theorem kp_ext {s t : Shared} (k : Keeps s t) : ∀ b o, s.heap.get? b = some o → t.heap.get? b = some o := by
  obtain ⟨h, tk, rfl, e⟩ := k
  exact e
theorem kp_tr {s t u : Shared} (k : Keeps s t) (k' : Keeps t u) : Keeps s u := by
  obtain ⟨h, tk, rfl, e⟩ := k
  obtain ⟨h', tk', rfl, e'⟩ := k'
  exact ⟨h', tk', rfl, fun b o q => e' b o (e b o q)⟩
theorem kp_tk (s : Shared) (n : Nat) : Keeps s { s with toks := n } := ⟨s.heap, n, rfl, fun _ _ q => q⟩
theorem mod_ext {K : PySem.W.Frag} {mg : Str → Option Value} {h h' : Heap} (m : Mod K mg h) (k : ∀ b o, h.get? b = some o → h'.get? b = some o) : Mod K mg h' := by
  obtain ⟨mb, h1, h2⟩ := m.blt
  exact ⟨m.kin.keeps k, m.glob.keeps k, ⟨mb, h1.keeps k, h2⟩, m.nolimit.keeps k⟩
/-- a word about a heap that stays where it grows -/
def Stays (hm : Heap → Prop) : Prop := ∀ h h' : Heap, (∀ b o, h.get? b = some o → h'.get? b = some o) → hm h → hm h'
/-- e gives what R says, and all that stood is left as it was; whatever frames stand around -/
def Lo (prog : Program) (w : World) (K : PySem.W.Frag) (mg : Str → Option Value) (D : Nat) (env : Env) (hm : Heap → Prop) (e : Expr) (R : Value → Prop) : Prop :=
  ∀ (A : Around) (E : Value → Shared → Prop) (s : Shared), A.handled = none → A.depth ≤ D → Mod K mg s.heap → hm s.heap → wpAny (model prog w) A (eval e env) (fun r t => R r ∧ Keeps s t) E s
section
variable {prog : Program} {w : World} {K : PySem.W.Frag} {mg : Str → Option Value} {D : Nat} {env : Env} {hm : Heap → Prop}
theorem Lo.imp {e : Expr} {R R' : Value → Prop} (h : Lo prog w K mg D env hm e R) (i : ∀ r, R r → R' r) : Lo prog w K mg D env hm e R' := fun A E s h1 h2 h3 h4 =>
  wpAny_mono (h A E s h1 h2 h3 h4) (fun r t q => ⟨i r q.1, q.2⟩) fun _ _ x => x
/-- a name of the frame -/
theorem lo_name {x : Str} {pos : Pos} {v : Value} (hk : env.scope.kind = .function) (hl : env.kindOf x = some .local) (hv : ∀ h, hm h → ∃ m, h.Ns env.locals m ∧ m x = some v) (hd : (x == ("__debug__" : Str)) = false := by decide) :
    Lo prog w K mg D env hm (.Name x pos) (fun r => r = v) := fun A E s _ _ _ h4 => by
  obtain ⟨m, h5, h6⟩ := hv _ h4
  exact wpAny_Name (wpAny_loadName_local hk hl h5 h6 ⟨rfl, kp_tk s s.toks⟩) hd
/-- a name of the module -/
theorem lo_glob {x : Str} {pos : Pos} {v : Value} (hk : env.scope.kind = .function) (hl : env.kindOf x = some .globalImplicit) (hg : env.globals = mainGlobals) (hv : mg x = some v) (hd : (x == ("__debug__" : Str)) = false := by decide) :
    Lo prog w K mg D env hm (.Name x pos) (fun r => r = v) := fun A E s _ _ h3 _ =>
  Calls.Name_function_global hk hl (Calls.loadGlobal_global (by rw [hg]; exact h3.glob) hv ⟨rfl, kp_tk s s.toks⟩) hd
/-- a built-in's name -/
theorem lo_blt {x : Str} {pos : Pos} {v : Value} (hk : env.scope.kind = .function) (hl : env.kindOf x = some .globalImplicit) (hg : env.globals = mainGlobals) (hb : env.builtins = builtinsNs) (hv : mg x = none) (hu : bootBuiltins x = some v)
    (hn : x ≠ "__name__" := by decide) (hd : (x == ("__debug__" : Str)) = false := by decide) : Lo prog w K mg D env hm (.Name x pos) (fun r => r = v) := fun A E s _ _ h3 _ => by
  obtain ⟨mb, h5, h6⟩ := h3.blt
  exact Calls.Name_function_global hk hl (Calls.loadGlobal_builtin (by rw [hg]; exact h3.glob) hv (by rw [hb]; exact h5) ((h6 x hn).trans hu) ⟨rfl, kp_tk s s.toks⟩) hd
theorem lo_int {i : Int} {k : Nat} {pos : Pos} : Lo prog w K mg D env hm (.Constant (.int i) k pos) (fun r => ∃ t, r = .int i t) := fun A E s _ _ _ _ =>
  wpAny_Constant_int ⟨⟨_, rfl⟩, kp_tk s _⟩
theorem lo_one {op : BoolOp} {a : Expr} {pos : Pos} {R : Value → Prop} (h : Lo prog w K mg D env hm a R) : Lo prog w K mg D env hm (.BoolOp op [a] pos) R := fun A E s h1 h2 h3 h4 => BoolOp_one (h A E s h1 h2 h3 h4)
/-- a and b: what a is decides -/
theorem lo_and {a b : Expr} {rest : List Expr} {pos : Pos} {c : Bool} {R : Value → Prop} (st : Stays hm) (ha : Lo prog w K mg D env hm a (fun r => r = .bool c)) (hf : c = false → R (.bool false)) (ht : c = true → Lo prog w K mg D env hm (.BoolOp .And (b :: rest) pos) R) :
    Lo prog w K mg D env hm (.BoolOp .And (a :: b :: rest) pos) R := fun A E s h1 h2 h3 h4 => by
  refine BoolOp_and (wpAny_mono (ha A E s h1 h2 h3 h4) (fun r t q => ?_) fun _ _ x => x)
  obtain ⟨rfl, k⟩ := q
  refine wpAny_truthy_bool ?_
  cases c with
  | false => exact ⟨hf rfl, k⟩
  | true => exact wpAny_mono (ht rfl A E t h1 h2 (mod_ext h3 (kp_ext k)) (st _ _ (kp_ext k) h4)) (fun r u q => ⟨q.1, kp_tr k q.2⟩) fun _ _ x => x
theorem lo_not {a : Expr} {pos : Pos} {c : Bool} (ha : Lo prog w K mg D env hm a (fun r => r = .bool c)) : Lo prog w K mg D env hm (.UnaryOp .Not a pos) (fun r => r = .bool (!c)) := fun A E s h1 h2 h3 h4 => by
  refine UnaryOp_ (wpAny_mono (ha A E s h1 h2 h3 h4) (fun r t q => ?_) fun _ _ x => x)
  obtain ⟨rfl, k⟩ := q
  exact PyProof.Rows.not_of (wpAny_truthy_bool ⟨rfl, k⟩)
/-- isinstance(a, T), T a built-in type -/
theorem lo_isi {a : Expr} {T : Str} {Tn : String} {p0 p2 pos : Pos} {v t : Value} {Hk : Heap → Prop} {b : Bool} (st : Stays hm) (hk : env.scope.kind = .function) (hg : env.globals = mainGlobals) (hb : env.builtins = builtinsNs)
    (li : env.kindOf "isinstance" = some .globalImplicit) (mi : mg "isinstance" = none) (lT : env.kindOf T = some .globalImplicit) (mT : mg T = none) (bT : bootBuiltins T = some (.type Tn))
    (ha : Lo prog w K mg D env hm a (fun r => r = v)) (Z : PySem.W.KitX K v t Hk) (hK : ∀ h, hm h → Hk h) (e : PySem.W.kitOne K t (.type Tn) = some b) (hx : v ≠ .builtin "__main__.__loader__#opaque")
    (he : starEach [a, .Name T p2] env = (false, eval a env) :: starEach [.Name T p2] env := by rfl) (hn : T ≠ "__name__" := by decide) (hd : (T == ("__debug__" : Str)) = false := by decide) :
    Lo prog w K mg D env hm (.Call (.Name "isinstance" p0) [a, .Name T p2] [] pos) (fun r => r = .bool b) := fun A E s h1 h2 h3 h4 => by
  refine wpAny_Call_Name_kw (wpAny_mono (lo_blt (D := D) (hm := hm) (pos := p0) hk li hg hb mi (by decide +kernel : bootBuiltins "isinstance" = some (.builtin "isinstance")) (by decide) (by decide) A E s h1 h2 h3 h4) (fun r t1 q => ?_) fun _ _ x => x)
  obtain ⟨rfl, k1⟩ := q
  refine PyProof.Rows.callWith_builtin1 ?_ he (by rfl)
  rw [he]
  have m1 := mod_ext h3 (kp_ext k1)
  have s1 := st _ _ (kp_ext k1) h4
  refine Calls.spliced_cons (wpAny_mono (ha A E t1 h1 h2 m1 s1) (fun r t2 q => ?_) fun _ _ x => x)
  obtain ⟨rfl, k2⟩ := q
  have m2 := mod_ext m1 (kp_ext k2)
  have s2 := st _ _ (kp_ext k2) s1
  refine Calls.spliced_cons (wpAny_mono (lo_blt (D := D) (hm := hm) (pos := p2) hk lT hg hb mT bT hn hd A E t2 h1 h2 m2 s2) (fun r t3 q => ?_) fun _ _ x => x)
  obtain ⟨rfl, k3⟩ := q
  refine Calls.spliced_nil ?_
  exact PySem.W.kia_one Z (mod_ext m2 (kp_ext k3)).kin (hK _ (st _ _ (kp_ext k3) s2)) e hx fun tk => ⟨rfl, kp_tr (kp_tr (kp_tr k1 k2) k3) (kp_tk _ tk)⟩
/-- i <= a <= c of whole numbers -/
theorem lo_chain {a b c : Expr} {pos : Pos} {x y z : Int} (st : Stays hm) (ha : Lo prog w K mg D env hm a (fun r => ∃ t, r = .int x t)) (hb : Lo prog w K mg D env hm b (fun r => ∃ t, r = .int y t)) (hc : Lo prog w K mg D env hm c (fun r => ∃ t, r = .int z t))
    (hl : lastMarks [.LtE, .LtE] [b, c] = false := by with_unfolding_all rfl) : Lo prog w K mg D env hm (.Compare a [.LtE, .LtE] [b, c] pos) (fun r => r = .bool (decide (x ≤ y) && decide (y ≤ z))) := fun A E s h1 h2 h3 h4 => by
  refine Compare_chain (wpAny_mono (ha A E s h1 h2 h3 h4) (fun r t1 q => ?_) fun _ _ x => x) hl
  obtain ⟨⟨tx, rfl⟩, k1⟩ := q
  have m1 := mod_ext h3 (kp_ext k1)
  have s1 := st _ _ (kp_ext k1) h4
  refine chain_link (wpAny_mono (hb A E t1 h1 h2 m1 s1) (fun r t2 q => ?_) fun _ _ x => x)
  obtain ⟨⟨ty, rfl⟩, k2⟩ := q
  have m2 := mod_ext m1 (kp_ext k2)
  have s2 := st _ _ (kp_ext k2) s1
  refine le_int (wpAny_truthy_bool ?_)
  by_cases hxy : x ≤ y
  · rw [decide_eq_true hxy]
    show wpAny _ _ _ _ _ _
    refine chain_last (wpAny_mono (hc A E t2 h1 h2 m2 s2) (fun r t3 q => ?_) fun _ _ x => x)
    obtain ⟨⟨tz, rfl⟩, k3⟩ := q
    exact le_int ⟨by rw [Bool.true_and], kp_tr (kp_tr k1 k2) k3⟩
  · rw [decide_eq_false hxy]
    show _ ∧ _
    exact ⟨by rw [Bool.false_and], kp_tr k1 k2⟩
/-- f(a): f a def of the text of one parameter, its body one return -/
theorem lo_call {f : Addr} {x pn qual fn : Str} {a e : Expr} {params : Arguments} {scope : Scope} {oc kV doc pm cdv ct u : Value} {od an : Option Addr} {osl : Array (Option Value)} {p0 p1 pos : Pos} {R : Value → Prop} (st : Stays hm)
    (hk : env.scope.kind = .function) (hg : env.globals = mainGlobals) (lf : env.kindOf fn = some .globalImplicit) (mf : mg fn = some (.ref f)) (hD : D < recursionLimit)
    (lk : K.lookup f = some ⟨oc, od, .func (PySem.W.fnOf x qual params [.Return (some e) p1] scope .none kV doc pm an cdv ct), osl⟩) (hcd : PySem.W.codeIn K cdv qual = true) (kp : PySem.W.keepIn K (.ref f) = true)
    (S : FnScope [pn] [pn] scope) (hb : Binds K (PySem.W.fnOf x qual params [.Return (some e) p1] scope .none kV doc pm an cdv ct) [pn] [])
    (lp : scope.names.lookup pn = some .local) (ha : Lo prog w K mg D env hm a (fun r => r = u))
    (hbody : ∀ env' : Env, env'.scope = scope → env'.globals = mainGlobals → env'.builtins = builtinsNs → Lo prog w K mg (D + 1) env' (fun h => hm h ∧ ∃ m, h.Ns env'.locals m ∧ m pn = some u) e R)
    (he : starEach [a] env = (false, eval a env) :: starEach [] env := by rfl) (hd : (fn == ("__debug__" : Str)) = false := by decide) :
    Lo prog w K mg D env hm (.Call (.Name fn p0) [a] [] pos) R := fun A E s h1 h2 h3 h4 => by
  refine wpAny_Call_Name_kw (wpAny_mono (lo_glob (D := D) (hm := hm) (pos := p0) hk lf hg mf hd A E s h1 h2 h3 h4) (fun r t1 q => ?_) fun _ _ x => x)
  obtain ⟨rfl, k1⟩ := q
  have m1 := mod_ext h3 (kp_ext k1)
  have s1 := st _ _ (kp_ext k1) h4
  refine PySem.W.callWith_K (h₀ := t1.heap) m1.kin kp ?_ he (by rfl)
  rw [he]
  refine Calls.spliced_cons (wpAny_mono (ha A E t1 h1 h2 m1 s1) (fun r t2 q => ?_) fun _ _ x => x)
  obtain ⟨rfl, k2⟩ := q
  have m2 := mod_ext m1 (kp_ext k2)
  have s2 := st _ _ (kp_ext k2) s1
  refine Calls.spliced_nil ⟨m2.kin, ?_⟩
  have KX := m2.kin
  refine wpAny_call (codeAny_call_function (Nat.lt_of_le_of_lt h2 hD) (KX _ _ lk) rfl S.co S.gen rfl (PySem.W.codeRec_of KX hcd) (hb t2 [r] KX rfl _ _ _ _ ?_))
  refine wpAny_newFunctionEnv_cells S.kind (fun y hy => ?_) fun env' he' s3 x3 => ?_
  · obtain rfl : y = (pn, r) := List.mem_singleton.mp hy
    exact .inl lp
  · have k3 : Keeps t2 s3 := x3.done
    have m3 := mod_ext m2 (kp_ext k3)
    have s3' := st _ _ (kp_ext k3) s2
    refine ⟨m3.nolimit, codeAny_func ?_⟩
    have ns := x3.toInCall.ns
    have hv : bindL env'.kindOf ([pn].zip ([r] ++ [])) (fun _ => none) pn = some r := by
      subst he'
      show bindL _ [(pn, r)] _ pn = some r
      unfold bindL
      simp [bindL, newEnv, Env.kindOf, lp]
    have hb' := hbody env' (by subst he'; rfl) (by subst he'; rfl) (by subst he'; rfl) (A.deeper env')
    refine wpAny_execs_cons (wpAny_Return_some (wpAny_mono (hb' _ s3 h1 (Nat.succ_le_succ h2) m3 ⟨s3', _, ns, hv⟩) (fun r t q => ?_) fun _ _ x => x))
    exact ⟨q.1, kp_tr (kp_tr (kp_tr k1 k2) k3) q.2⟩
end
/-- all(elt for x in t), t a tuple; bs: what elt gives for each item; behind it the def's table may have grown -/
def tAllT (K : PySem.W.Frag) (P : Addr) (C : Hp → V → Bool → Prop) (te : TE) : TE := fun σ H Q => te σ H fun v H1 => ∃ (a : Addr) (xs : List V) (bs : List Bool), v = .ref a ∧ SqT K H1 a xs ∧ bs.length = xs.length ∧
  (∀ (i : Nat) (x : V) (b : Bool), xs[i]? = some x → bs[i]? = some b → C H1 x b) ∧ GxR.TabG H1 P ∧ ∀ H2, GxR.Tabbed P H1 H2 → Q (.bl (bs.all fun b => b)) H2
theorem all_get (bs : List Bool) : (List.range bs.length).all (fun j => (bs[j]?).getD false) = bs.all fun b => b := by
  rw [Bool.eq_iff_iff, List.all_eq_true, List.all_eq_true]
  constructor
  · intro h b hb
    obtain ⟨j, hj, e⟩ := List.getElem_of_mem hb
    have q := h j (List.mem_range.mpr hj)
    rw [List.getElem?_eq_getElem hj, e] at q
    exact q
  · intro h j hj
    rw [List.getElem?_eq_getElem (List.mem_range.mp hj)]
    exact h _ (List.getElem_mem _)
/-- what an element asks: at the item v it gives b, quietly -/
def EltOk (X : Cx) (P : Addr) (scope : Scope) (y : Str) (elt : Expr) (C : Hp → V → Bool → Prop) : Prop :=
  ∀ (pins : List (Addr × Obj)) (σ : L2.St) (H : Hp) (s : Shared) (v : V) (u : Value) (b : Bool), Inv X pins σ H s → RelV v u → C H v b → ∀ cenv : Env, cenv.scope = scope → cenv.globals = X.env.globals → cenv.builtins = builtinsNs →
    Lo X.prog X.w X.K X.mg (X.A.depth + 1) cenv (fun h => (∀ a o, a ≠ P → s.heap.get? a = some o → h.get? a = some o) ∧ ∃ m, h.Ns cenv.locals m ∧ m y = some u) elt (fun r => r = .bool b)
theorem pe_allT {X : Cx} {c P : Addr} {elt iter : Expr} {y : Str} {px p pos gpos : Pos} {scope : Scope} {C : Hp → V → Bool → Prop} {te : TE} {k : Nat}
    (hr : Room k X.A) (hg : Gl X "all") (hm : X.mg "all" = none) (TB : GxR.TabB X.base X.mg c P) (hcode : X.env.code = .ref c) (S : GxR.GenS X.env scope y) (hi : PE X iter te) (hel : EltOk X P scope y elt C)
    (hs : ∀ v, genFold iter X.env v = pure v)
    (he : starEach [.GeneratorExp elt [⟨.Name y px, iter, [], 0⟩] scope gpos] X.env = (false, eval (.GeneratorExp elt [⟨.Name y px, iter, [], 0⟩] scope gpos) X.env) :: starEach [] X.env := by rfl) :
    PE X (.Call (.Name "all" p) [.GeneratorExp elt [⟨.Name y px, iter, [], 0⟩] scope gpos] [] pos) (tAllT X.K P C te) := by
  refine ⟨fun pins s σ H Q I h => ?_⟩
  refine wpAny_Call_Name_kw (ld_blt I hg hm (by decide +kernel : bootBuiltins "all" = some (.builtin "all")) ?_)
  refine PyProof.Rows.callWith_builtin1 ?_ he (by rfl)
  rw [he]
  refine Calls.spliced_cons (wpAny_GeneratorExp_walksQD hr.hd S.co (closure_ok S.free) S.cell S.dot S.loc S.kind (by have z := hr.dp; omega) ?_ hs)
  refine thn (hi.run pins s σ H _ I h) fun xv s1 ⟨v, H1, I1, r1, a, xs, bs, ev, hT, hlen, hC, ⟨ps, hP, htr⟩, q1⟩ => ?_
  subst ev
  cases r1
  obtain ⟨its, rv, ht, hz⟩ := I1.tuple hT
  have lenI : its.length = xs.length := rv.length.symm
  have htl : a < s1.heap.objs.size := by
    obtain ⟨o, e, _⟩ := ht
    exact Heap.lt_size e
  have hPs : s1.heap.get? P = some { cls := .none, data := .fields ps } := I1.hok P _ hP
  have hPl : P < s1.heap.objs.size := Heap.lt_size hPs
  refine wpAny_pyIter_tuple (show s1.heap.IsTuple a its.toArray from ht) ?_
  generalize eo : ({ cls := .type "tuple_iterator", data := .fields #[.ref a, .int 0 0] } : Obj) = o
  have push1 : ∀ b u, s1.heap.get? b = some u → (s1.heap.push o).get? b = some u := fun b u e => Heap.get?_push_of_some _ e
  have szp : (s1.heap.push o).objs.size = s1.heap.objs.size + 1 := Heap.size_push ..
  have limp : (s1.heap.push o).NoLimit := I1.nolimit.push o
  have hcd : PySem.W.CodeHd (s1.heap.push o) c P := TB.code.keeps fun b u e => push1 b u (I1.bk b u e)
  refine ⟨limp, ?_⟩
  refine wpAny_mono (Q := fun _ s3 => ∃ (h3 : Heap) (tk : Nat) (more : Array Value), s3 = { s1 with heap := h3, toks := tk } ∧ Heap.ExtBut P (s1.heap.push o) h3 ∧ (s1.heap.push o).objs.size ≤ h3.objs.size ∧ h3.get? P = some { cls := .none, data := .fields (ps ++ more) } ∧ TriplesOk (ps ++ more).toList) (E := X.xe) ?_ (fun code s3 q3 => ?_) fun _ _ z => z
  · cases hf : codeAmong gpos ps.toList with
    | none =>
      refine wpAny_genexprCodeX hcode (hcd.code (push1 _ _ hPs) htr) (hcd.tab (push1 _ _ hPs)) hf fun c' h' tk hx hge hlt hco' _ htab' _ => ?_
      obtain ⟨o1, vs, f1, tf, fl, tg, inF, tx, tt, op, _, _, _, _, _, _, _, _, _, htr', _⟩ := hco'
      exact ⟨h', tk, _, rfl, hx, Nat.le_trans hge (Nat.le_of_lt hlt), htab'.2, htr'⟩
    | some cv =>
      refine wpAny_genexprCode_hit hcode (hcd.code (push1 _ _ hPs) htr) hf ?_
      exact ⟨s1.heap.push o, s1.toks, #[], rfl, Heap.ExtBut.refl _ _, Nat.le_refl _, by rw [Array.append_empty]; exact push1 _ _ hPs, by rw [Array.append_empty]; exact htr⟩
  · obtain ⟨h3, tk3, more, rfl, hx3, hsz3, hP3, htr3⟩ := q3
    obtain ⟨bm, ob, e1, e2, e3, e4, e5, e6, e7, e8⟩ := TB.bm
    have toH3 : ∀ b u, b ≠ P → s1.heap.get? b = some u → h3.get? b = some u := fun b u hb e => hx3 b u hb (push1 b u e)
    have nPc : cStatics ≠ P := fun e => by
      obtain ⟨_, hns, _⟩ := I1.nolimit
      obtain ⟨o', es, ep, ho, hd, _⟩ := hns
      rw [e, hPs] at ho
      cases ho
      cases hd
    have ltC : cStatics < s1.heap.objs.size := let ⟨_, hns, _⟩ := I1.nolimit; hns.lt
    have ltA : a ≠ P := fun e => by
      obtain ⟨o', e', c', _⟩ := ht
      rw [e, hPs] at e'
      cases e'
      cases c'
    refine wpAny_builtinsFor (m := X.mg) (by rw [I1.ok.glob]; exact ((I1.mod.glob.keeps I1.bk).push o).extBut hx3 TB.gP) e1 e2 (toH3 _ _ e4 (I1.bk _ _ e5)) e6 e7 e8 ?_
    have itl : s1.heap.objs.size < h3.objs.size := by omega
    refine ⟨s1.heap.objs.size, [s1.heap.objs.size, a], [s1.heap.objs.size], its.toArray.size, _, _, (fun _ => true), (fun i r => ∃ b, bs[i]? = some b ∧ r = .bool b), rfl, fun A' hA => Walks.tuple hA _ a (Nat.ne_of_lt htl) its.toArray, ⟨?_, ?_⟩, ?_, limp.extBut hx3 nPc, ?_, ?_, ?_⟩
    · have e9 : (s1.heap.push o).get? s1.heap.objs.size = some o := Heap.get?_push_size _ (by rw [← eo]; rfl)
      have e10 := hx3 _ _ (fun z => Nat.ne_of_lt hPl z.symm) e9
      subst eo
      exact ⟨_, e10, rfl, rfl⟩
    · obtain ⟨o', e', r'⟩ := ht
      exact ⟨o', toH3 _ _ ltA e', r'⟩
    · intro b hb
      rcases List.mem_cons.mp hb with z | z
      · rw [z]
        exact itl
      · rw [List.mem_singleton.mp z]
        exact Nat.lt_trans htl itl
    · intro z
      exact Nat.ne_of_lt ltC (List.mem_singleton.mp z)
    · intro href hhref
      refine ⟨fun A' E' i v s₂ m₂ hA _ _ _ hn hmv hk => ?_, fun A' E' i v s₂ m₂ hA hdp _ hv _ hn hmv hk => ?_⟩
      · simp only [List.forIn_nil]
        exact wpAny_pure ⟨rfl, kp_tk _ _⟩
      · have hv' : its[i]? = some v := by
          rw [← hv]
          simp
        obtain ⟨hi1, _⟩ := List.getElem?_eq_some_iff.mp hv'
        have hi2 : i < xs.length := by omega
        have hi3 : i < bs.length := by omega
        obtain ⟨u, hu, ru⟩ := rv.get (List.getElem?_eq_getElem hi2)
        rw [hv'] at hu
        cases hu
        have hold : ∀ b u, b ≠ P → s1.heap.get? b = some u → s₂.heap.get? b = some u := fun b u hb e => by
          have hl := Heap.lt_size e
          refine hk b (List.mem_range.mpr (Nat.lt_trans hl itl)) (fun z => ?_) u (hhref b u (toH3 b u hb e))
          exact Nat.ne_of_lt hl (List.mem_singleton.mp z)
        have hmod : Mod X.K X.mg s₂.heap := mod_ext I1.mod fun b u e => hold b u (fun z => by
          have n := (I1.bs b u e).2
          rw [z, hP] at n
          cases n) (I1.bk b u e)
        refine wpAny_mono (hel pins σ H1 s1 _ v bs[i] I1 ru (hC i _ _ (List.getElem?_eq_getElem hi2) (List.getElem?_eq_getElem hi3)) (genEnv scope (cloFrom X.env.cells scope.names []) h3.objs.size code builtinsNs X.env) rfl rfl rfl A' E' s₂ hA hdp hmod ⟨hold, m₂, hn, hmv⟩) (fun r t q => ?_) fun _ _ z => z
        exact ⟨⟨_, List.getElem?_eq_getElem hi3, q.1⟩, q.2⟩
    · intro g h5 tk5 gs hgb hag hsz5 hk5 W5 hat
      simp only [GxR.passing_true, List.length_range] at W5
      have W6 := W5.in4_1
      refine Calls.spliced_nil (call_all_walkS (W6.self 0 _ _ _ hat ⟨g, _, _, _, _, _, _, fun j => (bs[j]?).getD false, rfl, W6, hat, ?_, fun s' hmv => ?_⟩))
      · intro j r sj Qj Ej hr' hQj
        obtain ⟨i, hij, b, hb, rfl⟩ := hr'
        obtain ⟨hj, ej⟩ := List.getElem?_eq_some_iff.mp hij
        rw [List.getElem_range] at ej
        subst ej
        have hQ2 : Qj ((bs[j]?).getD false) sj := hQj
        rw [hb] at hQ2
        exact wpAny_truthy_bool hQ2
      · have nw : ∀ b u, s1.heap.get? b = some u → b ∉ h3.objs.size :: [s1.heap.objs.size] := fun b u e hb => by
          have hl := Heap.lt_size e
          rcases List.mem_cons.mp hb with z | z
          · rw [z] at hl
            exact absurd (Nat.lt_trans itl hl) (Nat.lt_irrefl _)
          · rw [List.mem_singleton.mp z] at hl
            exact Nat.lt_irrefl _ hl
        have J := GxR.inv_tab (more := more) (h' := s'.heap) (g' := s'.gens) (d' := s'.drawn) (t' := s'.toks) I1 hP (fun b u hb e => hmv.heap b u (nw b u e) (hk5 b u (toH3 b u hb e)))
          (hmv.heap P _ (nw P _ hPs) (hk5 P _ hP3)) (AllBare.movedS (I1.bare.push hgb) hmv)
        rw [GxR.sh_eta s1 s' hmv.os] at J
        refine ⟨.bl (bs.all fun b => b), upd H1 P (.tbl (ps ++ more)), J, ?_, q1 _ ⟨⟨ps ++ more, upd_same, htr3⟩, fun b hb => upd_ne hb⟩⟩
        have e11 : its.toArray.size = bs.length := by
          rw [List.size_toArray]
          omega
        rw [e11, all_get]
        rfl
/-! ### heaps -/
theorem same_upd {H : Hp} {p : Addr} {o : HO} (h : H p = none) : Same H (upd H p o) := fun b x e => by
  rw [upd_ne (ne_of_none e h)]
  exact e
theorem Same.tup {K : PySem.W.Frag} {H H' : Hp} {a : Addr} {xs : List V} (e : Same H H') (h : SqT K H a xs) : SqT K H' a xs := by
  rcases h with (h | ⟨o, h⟩) | h
  · exact .inl (.inl (e _ _ h))
  · exact .inl (.inr ⟨o, e _ _ h⟩)
  · exact .inr h
/-- the source of draws: at p the list of the cells' list at l, a number held and a seed -/
def Sc (p l : Addr) (H : Hp) : Prop := p ≠ l ∧ ∃ (ns : List Int) (a b : Int), H p = some (.lst [.ref l, .int a, .int b]) ∧ H l = some (.lst (ns.map V.int)) ∧ 0 ≤ a ∧ 0 ≤ b ∧ b < 998244353
/-- but for p and l all that was tracked is as it was -/
def Kp (p l : Addr) (H H' : Hp) : Prop := ∀ b o, b ≠ p → b ≠ l → H b = some o → H' b = some o
theorem Kp.refl {p l : Addr} (H : Hp) : Kp p l H H := fun _ _ _ _ e => e
theorem Kp.trans {p l : Addr} {H H1 H2 : Hp} (a : Kp p l H H1) (b : Kp p l H1 H2) : Kp p l H H2 := fun c o h1 h2 e => b c o h1 h2 (a c o h1 h2 e)
theorem Kp.upd {p l q : Addr} {o : HO} {H H1 : Hp} (a : Kp p l H H1) (h : H1 q = none) : Kp p l H (L2.upd H1 q o) := fun c u h1 h2 e => same_upd h c u (a c u h1 h2 e)
theorem Kp.updp {p l : Addr} {o : HO} {H H1 : Hp} (a : Kp p l H H1) : Kp p l H (L2.upd H1 p o) := fun c u h1 h2 e => by
  rw [upd_ne h1]
  exact a c u h1 h2 e
theorem Kp.updl {p l : Addr} {o : HO} {H H1 : Hp} (a : Kp p l H H1) : Kp p l H (L2.upd H1 l o) := fun c u h1 h2 e => by
  rw [upd_ne h2]
  exact a c u h1 h2 e
theorem Sc.upd {p l q : Addr} {o : HO} {H : Hp} (a : Sc p l H) (h : H q = none) : Sc p l (L2.upd H q o) := by
  obtain ⟨n, ns, x, y, e1, e2, r⟩ := a
  exact ⟨n, ns, x, y, same_upd h _ _ e1, same_upd h _ _ e2, r⟩
theorem Sc.same {p l : Addr} {H H' : Hp} (a : Sc p l H) (h : Same H H') : Sc p l H' := by
  obtain ⟨n, ns, x, y, e1, e2, r⟩ := a
  exact ⟨n, ns, x, y, h _ _ e1, h _ _ e2, r⟩
theorem Kp.of_same {p l : Addr} {H H' : Hp} (h : Same H H') : Kp p l H H' := fun b o _ _ e => h b o e
theorem Sc.ne {p l b : Addr} {H : Hp} (a : Sc p l H) (h : H b = none) : b ≠ p ∧ b ≠ l := by
  obtain ⟨n, ns, x, y, e1, e2, r⟩ := a
  exact ⟨(ne_of_none e1 h).symm, (ne_of_none e2 h).symm⟩
/-- what was free behind is free ahead -/
theorem Kp.free {p l b : Addr} {H H' : Hp} (k : Kp p l H H') (a : Sc p l H') (h : H' b = none) : H b = none := by
  cases q : H b with
  | none => rfl
  | some o =>
    have n := a.ne h
    rw [k b o n.1 n.2 q] at h
    cases h
theorem dpAll_int {K : PySem.W.Frag} {H : Hp} : ∀ ns : List Int, DpAll K H (ns.map V.int) (ns.map PyData.int)
  | [] => .nil
  | n :: r => .cons (.int n) (dpAll_int r)
theorem canLay_ints : ∀ ns : List Int, PyData.canLayAll0 (ns.map PyData.int) = true
  | [] => by simp [PyData.canLayAll0]
  | n :: r => by
    have ih := canLay_ints r
    simp only [List.map_cons, PyData.canLayAll0, PyData.canLay0, Bool.true_and]
    exact ih
theorem depth_ints : ∀ ns : List Int, PyData.depthAll (ns.map PyData.int) ≤ 1
  | [] => by simp [PyData.depthAll]
  | n :: r => by
    have ih := depth_ints r
    simp only [List.map_cons, PyData.depthAll, PyData.depth]
    omega
theorem shaped_ints (ns : List Int) : SeqAt.shaped (.list (ns.map PyData.int)) = true := by
  have h1 := canLay_ints ns
  have h2 := depth_ints ns
  unfold SeqAt.shaped
  rw [show PyData.canLay0 (.list (ns.map PyData.int)) = PyData.canLayAll0 (ns.map PyData.int) by simp only [PyData.canLay0], h1, Bool.true_and]
  refine decide_eq_true ?_
  rw [show PyData.depth (.list (ns.map PyData.int)) = PyData.depthAll (ns.map PyData.int) + 1 by simp only [PyData.depth]]
  omega
theorem eqv_nil : ∀ ns : List Int, PyData.eqv (.list (ns.map PyData.int)) (.list []) = ns.isEmpty
  | [] => by simp [PyData.eqv, PyData.eqvAll]
  | n :: r => by simp [PyData.eqv, PyData.eqvAll]
theorem map_get {ns : List Int} {i : Nat} {x : V} (h : (ns.map V.int)[i]? = some x) : ∃ n, ns[i]? = some n ∧ x = .int n := by
  rw [List.getElem?_map] at h
  cases e : ns[i]? with
  | none =>
    rw [e] at h
    cases h
  | some n =>
    rw [e] at h
    exact ⟨n, rfl, (Option.some.inj h).symm⟩
theorem lg {m : Int} (h : 0 < m) (h2 : m ≤ 1000000) : m.natAbs.log2 < 9000 := Nat.lt_of_lt_of_le (PySem.Flt.log2_lt_of (by decide : 0 < 64) (by omega)) (by decide)
/-- what the top has left of each def's table -/
def TabsOf (q : Program) (mg : Str → Option Value) (h : Heap) : Prop := ∀ e ∈ recsOf q, ∃ a o fd c P, mg e.name = some (.ref a) ∧ h.get? a = some o ∧ o.data = .func fd ∧ fd.code = .ref c ∧ h.IsCode c P #[] ∧ h.TableAt c P #[]
/-- the end of a law that reaches defs with generator expressions -/
theorem walk_tab {l : PySem.W.OpenLaw} {n k : Nat} {q : Program} {loose : List Str} {XP : (Str → Option Value) → Heap → Prop} {YP : World → Heap → Prop} {d : DefRec} {K : Params → PySem.W.Frag} {x : Str}
    (hn : l.most = some n) (hn2 : n ≤ sizeLine) (hdf : d.params.defaults = []) (hr : Room k callerA) (hY : ∀ (w : World) (h : Heap), YP w h → (K w.params).In h)
    (F : ∀ (w : World) (mg : Str → Option Value) (fa : Addr) (h : Heap), (K w.params).In h → h.Ns mainGlobals mg → mg d.name = some (.ref fa) → TabsOf q mg h → LamX.LawAtS l w (K w.params) CX0 k n x mg fa h) :
    PySem.W.WalkO q loose XP YP l.row.toRowW d [] (fun f vs => PySem.call f vs) := by
  refine Att.attach_callB hn hdf fun w t0 t1 mg mb fa o pm cd doc a vs ns G Y _ _ _ hmg hobj hints hlen hbits hg => ?_
  obtain ⟨fd, cs, sp, hT, nT, C, hb, hsp, hF⟩ := F w mg fa _ (hY w _ Y) G.T.g hmg G.T.tab
  refine LamX.law_callTs (hY w _ Y) G.T.g G.T.b G.T.builtins G.T.nolimit hg hT nT C G.T.bmain hobj hints ?_ hr hF hb ?_ fun _ _ _ z => z
  · exact Nat.le_trans hlen hn2
  · exact fun H hH hS => hsp H a ns hlen hbits hH hS
/-- the table of the def f, whose code object the head has written out -/
theorem tab_of {q : Program} {mg : Str → Option Value} {h : Heap} {K : PySem.W.Frag} {f c P : Addr} {x qual : Str} {params : Arguments} {body : List Stmt} {scope : Scope} {oc kV doc pm ct e : Value} {od an dd : Option Addr} {osl sl : Array (Option Value)} {vs : Array Value} (X : K.In h) (T : TabsOf q mg h)
    (hr : ((recsOf q).any fun e => e.name == x) = true) (hf : mg x = some (.ref f)) (lk : K.lookup f = some ⟨oc, od, .func (PySem.W.fnOf x qual params body scope .none kV doc pm an (.ref c) ct), osl⟩)
    (lc : K.lookup c = some ⟨e, dd, .fields vs, sl⟩) (h11 : vs[11]? = some (.ref P)) : h.get? P = some { cls := .none, data := .fields #[] } ∧ PySem.W.CodeHd h c P := by
  obtain ⟨r, hm, hn⟩ := List.any_eq_true.mp hr
  have hn' : r.name = x := beq_iff_eq.mp hn
  obtain ⟨a, o, fd, c', P', h1, h2, h3, h4, h5, h6⟩ := T r hm
  rw [hn', hf] at h1
  cases h1
  rw [X _ _ lk] at h2
  cases h2
  cases h3
  cases h4
  have hd := PySem.W.CodeHd.of h5 h6
  obtain ⟨⟨oc', vc, e1, _, e3, e4⟩, hP⟩ := h6
  rw [X _ _ lc] at e1
  cases e1
  cases e3
  rw [h11] at e4
  cases e4
  exact ⟨hP, hd⟩
/-! ### < of data at any depth -/
def rLtD (K : PySem.W.Frag) : R2 := fun x y H Q => ∃ d e, Dp K H x d ∧ Dp K H y e ∧ PySem.W.alike d e = true ∧ d ≠ .none ∧ d.depth ≤ 64 ∧ Q (.bl (PySem.W.dataLt d e)) H
theorem op_ltD {X : Cx} (hu : X.A.units + 64 < cLine) : OpR X (compareOp .Lt) (rLtD X.K) := by
  intro pins s σ H x y v u Q I rx ry h
  obtain ⟨d, e, hd, he, ha, hn, hz, q⟩ := h
  obtain ⟨as, r1⟩ := Dp.reads I d x v hd rx
  obtain ⟨bs, r2⟩ := Dp.reads I e y u he ry
  refine PySem.W.lt_data r1 r2 ha hn ?_ ⟨.bl _, H, I, rfl, q⟩
  have := Nat.min_le_left d.depth e.depth
  omega
/-! ### (a, ..) * k for k = 0 and 1 too -/
theorem tup_mul1 (l : Addr) (items : Array Value) (n : Nat) (dd : Option Addr) (sl : Array (Option Value)) (u : Tok) :
    Meets (Builtin.«tuple.__mul__» ⟨[.ref l, .int 1 u], []⟩) (fun _ R s => s.heap.get? l = some { cls := .type "tuple", dict := dd, data := .seq items n, slots := sl } ∧ R (.ok (.ret (.ref l))) s) :=
  .of_wp fun prog w A R s h => by
    obtain ⟨hp, g, d, tk, os⟩ := s
    obtain ⟨hl, h⟩ := h
    have f1 := AutoSeq1.idx_int
    wp_walk using AutoSeq1.wpAny_loadPart' hl
    repeat (first
      | (refine wpAny_ite_true (decide_eq_true (by simp)) ?_; wp_walk using AutoSeq1.wpAny_loadPart' hl)
      | (refine wpAny_ite_false (decide_eq_false (by simp)) ?_; wp_walk using AutoSeq1.wpAny_loadPart' hl))
    exact ⟨_, rfl, h⟩
theorem tup_mul0 (l : Addr) (items : Array Value) (n : Nat) (dd : Option Addr) (sl : Array (Option Value)) (u : Tok) (hne : items.isEmpty = false) :
    Meets (Builtin.«tuple.__mul__» ⟨[.ref l, .int 0 u], []⟩) (fun _ R s => s.heap.get? l = some { cls := .type "tuple", dict := dd, data := .seq items n, slots := sl } ∧
      R (.ok (.ret (.ref s.heap.objs.size))) { s with heap := s.heap.push { cls := .type "tuple", data := .seq #[] }, toks := s.toks }) :=
  .of_wp fun prog w A R s h => by
    obtain ⟨hp, g, d, tk, os⟩ := s
    obtain ⟨hl, h⟩ := h
    have f1 := AutoSeq1.idx_int
    wp_walk using AutoSeq1.wpAny_loadPart' hl
    repeat (first
      | (refine wpAny_ite_false (decide_eq_false (by simp [hne])) ?_; wp_walk using AutoSeq1.wpAny_loadPart' hl)
      | (refine wpAny_ite_true (decide_eq_true (by simp)) ?_; wp_walk using AutoSeq1.wpAny_loadPart' hl))
    exact ⟨_, rfl, h⟩
def rRepA (K : PySem.W.Frag) : R2 := fun x y H Q => ∃ l k xs, x = .ref l ∧ y = .int k ∧ SqT K H l xs ∧ xs ≠ [] ∧ 0 ≤ k ∧ k ≤ 1000 ∧ xs.length ≤ 1000 ∧ (k = 1 → Q (.ref l) H) ∧ (k ≠ 1 → ∀ p, H p = none → Q (.ref p) (upd H p (.tup (List.replicate k.toNat xs).flatten)))
theorem op_repA {X : Cx} : OpR X (binaryOp .Mult) (rRepA X.K) := by
  intro pins s σ H x y v u Q I rx ry h
  obtain ⟨l, k, xs, ex, ey, hT, hne, h0, h1, hz, q1, q2⟩ := h
  by_cases hk : 2 ≤ k
  · exact op_repT pins s σ H x y v u Q I rx ry ⟨l, k, xs, ex, ey, hT, hne, hk, h1, hz, q2 (by omega)⟩
  · subst ex ey
    cases rx
    obtain ⟨t, rfl⟩ := ry
    obtain ⟨its, r, ⟨⟨cls, dd, data, sl⟩, ho, hc, n, hd⟩, hs⟩ := I.tuple hT
    simp only at hc hd
    subst hc hd
    have hi : its.toArray.isEmpty = false := by
      cases its with
      | nil => exact absurd (List.eq_nil_of_length_eq_zero r.length) hne
      | cons a b => rfl
    rcases (show k = 0 ∨ k = 1 by omega) with rfl | rfl
    · refine wpAny_binaryOp_repeat_ref (T := "tuple") (U := "int") (by decide) ⟨_, ho, rfl⟩ (fun s' => typeIs_int s' 0 t) noFill_tuple_mul F.fills_int_mul F.slot_int_rmul repeat_tuple F.slot_int_index.lookup
        (call_meets F.slot_int_rmul (typeIs_int s 0 t) F.entry_int_rmul (F.args_int_rmul_2 _ _) (int_rmul_tuple 0 t l its.toArray n dd sl)
          ⟨ho, rfl, ⟨_, ho, rfl⟩, call_meets F.slot_tuple_mul ⟨_, ho, rfl⟩ F.entry_tuple_mul (F.args_tuple_mul_2 _ _) (tup_mul0 l its.toArray n dd sl t hi) ⟨ho, ?_⟩⟩)
      refine ⟨.ref s.heap.objs.size, _, I.laid (t' := s.toks) (o := .tup (List.replicate (0 : Int).toNat xs).flatten) (fun b ob q => Heap.get?_push_of_some _ q) (Nat.le_refl _) ?_, rfl, q2 (by decide) _ (I.hok.fresh (Nat.le_refl _))⟩
      exact ⟨Nat.zero_le _, [], .nil, IsTup.new _ _⟩
    · exact wpAny_binaryOp_repeat_ref (T := "tuple") (U := "int") (by decide) ⟨_, ho, rfl⟩ (fun s' => typeIs_int s' 1 t) noFill_tuple_mul F.fills_int_mul F.slot_int_rmul repeat_tuple F.slot_int_index.lookup
        (call_meets F.slot_int_rmul (typeIs_int s 1 t) F.entry_int_rmul (F.args_int_rmul_2 _ _) (int_rmul_tuple 1 t l its.toArray n dd sl)
          ⟨ho, rfl, ⟨_, ho, rfl⟩, call_meets F.slot_tuple_mul ⟨_, ho, rfl⟩ F.entry_tuple_mul (F.args_tuple_mul_2 _ _) (tup_mul1 l its.toArray n dd sl t) ⟨ho, ⟨.ref l, H, I, rfl, q1 rfl⟩⟩⟩)
/-! ### isinstance of the error that a suite holds -/
def rIsX (K : PySem.W.Frag) (D a : Addr) (cls : Value) (d : Option Addr) : List V → Hp → VK → Prop := fun xs H Q => cls = .ref D ∧ d = none ∧ rIsE K D a xs H Q
theorem call_isX {X : Cx} {a D : Addr} {oe : Obj} {cls : Value} {d : Option Addr} {pn : List (Addr × Obj)} (C : ExcC X.K D) (hz : Zc cls d oe) (hf : ∃ vs, oe.data = .fields vs) : CallR (X.suite a ((a, oe) :: pn)) (.builtin "isinstance") (rIsX X.K D a cls d) := by
  intro pins s σ H xs us Q I r h
  obtain ⟨rfl, rfl, h⟩ := h
  exact call_isE C hz hf pins s σ H xs us Q I r h
/-- .. with a tuple of classes -/
def rIsXT (K : PySem.W.Frag) (D a : Addr) (cls : Value) (d : Option Addr) : List V → Hp → VK → Prop := fun xs H Q => cls = .ref D ∧ d = none ∧ ∃ (tp : Addr) (cs : List V) (us : List Value) (b : Bool), xs = [.ref a, .ref tp] ∧ H tp = some (.tup cs) ∧ Paired ClsV cs us ∧ PySem.W.kitAny K (.ref D) us = some b ∧ Q (.bl b) H
theorem call_isXT {X : Cx} {a D : Addr} {oe : Obj} {cls : Value} {d : Option Addr} {pn : List (Addr × Obj)} (C : ExcC X.K D) (hz : Zc cls d oe) (hf : ∃ vs, oe.data = .fields vs) : CallR (X.suite a ((a, oe) :: pn)) (.builtin "isinstance") (rIsXT X.K D a cls d) := by
  intro pins s σ H xs us Q I r h
  obtain ⟨rfl, rfl, tp, cs, ws, b, rfl, hT, k, e, q⟩ := h
  obtain ⟨u1, u2, rfl, r1, r2⟩ := vals2 r
  cases (show u1 = Value.ref a from r1)
  cases (show u2 = Value.ref tp from r2)
  obtain ⟨hget, _⟩ := I.pin (a, oe) (List.mem_append.mpr (.inl List.mem_cons_self))
  obtain ⟨vs, hv⟩ := hf
  have J : PySem.W.InstAt s.heap a oe D none := by
    obtain ⟨oc, od, oda, osl⟩ := oe
    obtain ⟨h1, h2⟩ := hz
    dsimp only at h1 h2 hv
    subst h1 h2 hv
    exact ⟨hget, rfl, rfl, trivial⟩
  obtain ⟨_, its, rv, o, h1, h2, n, h3⟩ := (show ObjOk X.prog X.w H s.heap tp (.tup cs) from I.hok tp _ hT)
  have e3 := ClsV.all k rv
  subst e3
  obtain ⟨oc, od, dt, sl⟩ := o
  simp only at h2 h3
  subst h2 h3
  exact PySem.W.kia_tup (PySem.W.handS_kitx_exc C.hg C.hk C.hs C.hd C.ha C.hn C.ht C.hm) I.kIn J h1 e (fun z => nomatch z) fun tk => ⟨.bl b, H, I.kept (t' := tk) fun _ _ z => z, rfl, q⟩
/-! ### for i, x in enumerate(t), t a tuple -/
theorem enum_new {v : Value} {o : Obj} {Hv : Heap → Prop} (B : Begins v o Hv) :
    Meets (Builtin.«enumerate.__new__» ⟨[.type "enumerate", v], []⟩) (fun _ R s => Hv s.heap ∧
      R (.ok (.ret (.ref (s.heap.push o).objs.size))) { s with heap := (s.heap.push o).push { cls := .type "enumerate", data := .fields #[.none, .bool false, .ref s.heap.objs.size, rawInt 0, .none, .none] } }) :=
  .of_wp fun prog w A R s h => by
    obtain ⟨hp, g, d, tk, os⟩ := s
    obtain ⟨hv, h⟩ := h
    have hsub := sub_enumerate
    have q1 : ∀ {A1 : Around} {E1 : Value → Shared → Prop} {Q1 : Value → Shared → Prop}, Q1 (.ref hp.objs.size) ⟨hp.push o, g, d, tk, os⟩ → wpAny (model prog w) A1 (pyIter v) Q1 E1 ⟨hp, g, d, tk, os⟩ := fun q => B.iter prog w _ _ ⟨hp, g, d, tk, os⟩ _ hv q
    wp_walk using q1
    refine wpAny_stack_any fun st => wpAny_pure ?_
    split
    · rename_i c _ _ _ _ _
      cases (c == Value.type "enumerate") <;> (wp_walk using q1; exact ⟨_, rfl, h⟩)
    · wp_walk using q1
      exact ⟨_, rfl, h⟩
theorem call_enumT {prog : Program} {w : World} {A : Around} {E : Value → Shared → Prop} {s : Shared} {t : Addr} {items : Array Value} {Q : Value → Shared → Prop} (ht : s.heap.IsTuple t items)
    (h : ∀ h', IsEnum h' (s.heap.objs.size + 1) s.heap.objs.size 0 .none → h'.IsTupleIter s.heap.objs.size t 0 → (∀ b o, s.heap.get? b = some o → h'.get? b = some o) → Q (.ref (s.heap.objs.size + 1)) { s with heap := h' }) :
    wpAny (model prog w) A (call (.type "enumerate") [.ref t]) Q E s := by
  refine callType_new F.called_enumerate (by decide) (F.typeCall_enumerate_1 _) (F.newCall_enumerate_1 _) (fun obj => F.args_object_init_2 obj _) F.entry_enumerate_new (enum_new (begins_tuple t items)) ⟨ht, ?_⟩
  generalize eo : ({ cls := .type "tuple_iterator", data := .fields #[.ref t, .int 0 0] } : Obj) = o
  have hz : (s.heap.push o).objs.size = s.heap.objs.size + 1 := Heap.size_push ..
  have fo : o.isFreed = false := by rw [← eo]; rfl
  have he : IsEnum ((s.heap.push o).push { cls := .type "enumerate", data := .fields #[.none, .bool false, .ref s.heap.objs.size, rawInt 0, .none, .none] }) (s.heap.objs.size + 1) s.heap.objs.size 0 .none := by
    have q := Heap.get?_push_size (s.heap.push o) (o := { cls := .type "enumerate", data := .fields #[.none, .bool false, .ref s.heap.objs.size, rawInt 0, .none, .none] }) rfl
    rw [hz] at q
    exact q
  have hi : ((s.heap.push o).push { cls := .type "enumerate", data := .fields #[.none, .bool false, .ref s.heap.objs.size, rawInt 0, .none, .none] }).IsTupleIter s.heap.objs.size t 0 := by
    refine ⟨o, Heap.get?_push_of_some _ (Heap.get?_push_size _ fo), ?_, ?_⟩
    · rw [← eo]
    · rw [← eo]
      rfl
  show _ ∧ _
  rw [hz]
  exact ⟨⟨_, he, rfl⟩, h _ he hi fun b u x => Heap.get?_push_of_some _ (Heap.get?_push_of_some _ x)⟩
def ItE (K : PySem.W.Frag) (a : Addr) : It :=
  ⟨fun i H => ∃ (xs : List V) (x : V), SqT K H a xs ∧ xs[i]? = some x, fun i H v H' => ∃ T x, v = .ref T ∧ H T = none ∧ H' = upd H T (.tup [.int (i : Nat), x]) ∧ ∀ xs, SqT K H a xs → xs[i]? = some x, fun i H => ∃ xs : List V, SqT K H a xs ∧ xs.length ≤ i⟩
theorem turn_enumT {P : Program} {w : World} {K : PySem.W.Frag} {elts : List Expr} {kk : Nat} {tpos : Pos} (a e it : Addr) (hea : e ≠ a) (hia : a ≠ it) (hne : e ≠ it) :
    Turn P w K (.Tuple elts kk tpos) (ItE K a) [e, it] e (fun i h => (∃ old, IsEnum h e it ((i : Nat) : Int) old) ∧ h.IsTupleIter it a i) where
  mem := by simp
  obj := fun i h st b hb => by
    obtain ⟨⟨old, he⟩, ⟨o, ho, hc, hd⟩⟩ := st
    simp only [List.mem_cons, List.not_mem_nil, or_false] at hb
    rcases hb with rfl | rfl
    · exact ⟨_, he, fun v q => nomatch q⟩
    · exact ⟨o, ho, fun v q => by rw [hd] at q; cases q⟩
  keep := fun i h h' st k => let ⟨⟨old, he⟩, hi⟩ := st; ⟨⟨old, k e (by simp) _ he⟩, hi.at fun o q => k it (by simp) o q⟩
  item := by
    intro X hP hw hK hc i pins s σ H E I hf st hg
    subst hP hw hK
    obtain ⟨⟨old, he⟩, hit⟩ := st
    obtain ⟨xs, x, hq, hx⟩ := hg
    obtain ⟨its, rv, p, hz⟩ := I.tuple hq
    obtain ⟨u, hu, ru⟩ := rv.get hx
    have hel : e < s.heap.objs.size := Heap.lt_size he
    have hil : it < s.heap.objs.size := by
      obtain ⟨_, q, _⟩ := hit
      exact Heap.lt_size q
    have hlt : i < its.toArray.size := by
      rw [List.size_toArray]
      exact (List.getElem?_eq_some_iff.mp hu).1
    have hfp : e ∉ [it, a] := fun z => by
      simp only [List.mem_cons, List.not_mem_nil, or_false] at z
      rcases z with z | z
      · exact hne z
      · exact hea z
    refine wpAny_pyNext_enum_itemD (Draws.tuple (A := X.A.in1) (I.ok.hd hc) it a hia its.toArray) he ⟨hit, p⟩ hlt hne hfp fun y h' tk hy ho hst hT hsz hk => ?_
    have ey : y = u := by
      have z : its.toArray[i]? = some y := hy
      rw [show its.toArray[i]? = its[i]? by simp, hu] at z
      exact (Option.some.inj z).symm
    subst ey
    refine ⟨_, rfl, wpAny_letOwnedTupleGo_enum (s := { s with heap := h', toks := tk + 1 }) ho fun h2 he' sb => ?_⟩
    have hT2 : h2.get? s.heap.objs.size = some { cls := .type "tuple", data := .seq #[.int i tk, y] } := (sb.2 _ (Nat.ne_of_gt hel)).trans hT
    have new : ObjOk X.prog X.w (upd H s.heap.objs.size (.tup [.int (i : Nat), x])) h2 s.heap.objs.size (.tup [.int (i : Nat), x]) :=
      ⟨(show 2 ≤ sizeLine by decide), [.int i tk, y], .cons ⟨_, rfl⟩ (.cons ru .nil), ⟨_, hT2, rfl, _, rfl⟩⟩
    have I1 : Inv X pins σ (upd H s.heap.objs.size (.tup [.int (i : Nat), x])) { s with heap := h2, toks := tk + 1 } := by
      refine I.turnedNew (ch := [e, it]) (fun b ob hb q => ?_) hf (Nat.le_refl _) new
      have n1 : b ≠ e := fun z => hb (by simp [z])
      have n2 : b ≠ it := fun z => hb (by simp [z])
      exact (sb.2 b n1).trans (hk b ob n1 n2 q)
    refine ⟨.ref s.heap.objs.size, _, I1, rfl, ⟨_, x, rfl, I.hok.fresh (Nat.le_refl _), rfl, fun ys hy => by rw [I.tuple_inj hy hq]; exact hx⟩, ⟨⟨y, ?_⟩, hst.1.at fun o q => (sb.2 it (Ne.symm hne)).trans q⟩, fun b hb => ?_⟩
    · rw [show ((i + 1 : Nat) : Int) = (i : Int) + 1 by omega]
      exact he'
    · have hl : b < s.heap.objs.size := by
        simp only [List.mem_cons, List.not_mem_nil, or_false] at hb
        rcases hb with rfl | rfl
        · exact hel
        · exact hil
      rw [upd_ne (Nat.ne_of_lt hl)]
      exact (hf b hb).1
  done := by
    intro X hP hw hK hc i pins s σ H E I hf st hg
    subst hP hw hK
    obtain ⟨⟨old, he⟩, hit⟩ := st
    obtain ⟨xs, hq, hx⟩ := hg
    obtain ⟨its, rv, p, hz⟩ := I.tuple hq
    obtain ⟨f0, f1, f2, f3, f4, f5⟩ := hf it (by simp)
    have hl := rv.length
    have D : Draws X.prog X.w X.A.in1 it [it, a] i (fun _ _ => True) (fun j h => j = i ∧ h.IsTupleIter it a i ∧ h.IsTuple a its.toArray) :=
      { live := fun _ _ st => let ⟨o, ho, _⟩ := st.2.1; ⟨o, ho⟩
        frame := fun _ _ _ st k => ⟨st.1, st.2.1.at fun o q => k it (by simp) o q, st.2.2.at fun o q => k a (by simp) o q⟩
        item := fun j s Q E hj st _ => absurd st.1 (Nat.ne_of_lt hj)
        done := fun s Q E st hE => wpAny_nextOf_tuple_end (I.ok.hd hc) st.2.1 st.2.2 (by simp; omega) hE }
    exact wpAny_pyNext_enum_endD D he ⟨rfl, hit, p⟩ fun h' eb => ⟨rfl, I.turned (t' := s.toks) (fun b o hb q => eb b o hb q) f0 f1 f3 f4 f5⟩
  self := fun A i s Q E st h => let ⟨⟨_, he⟩, _⟩ := st; wpAny_pyIter_enum he h
def iEnumT (K : PySem.W.Frag) (ta : TA) : TI := fun σ H R => ta σ H fun vs H1 => ∃ a xs, vs = [.ref a] ∧ SqT K H1 a xs ∧ R (ItE K a) H1
theorem pi_enumT {X : Cx} {e : Expr} {ta : TA} {p pos tpos : Pos} {elts : List Expr} {kk : Nat} (hg : Gl X "enumerate") (hm : X.mg "enumerate" = none) (ha : PA X [e] ta) (hs : starEach [e] X.env = [(false, eval e X.env)] := by rfl) :
    PI X (.Tuple elts kk tpos) (.Call (.Name "enumerate" p) [e] [] pos) (iEnumT X.K ta) := by
  refine ⟨fun pins s σ H R I h => ?_⟩
  refine Call_ (ld_blt I hg hm boot_enumerate (PyProof.Rows.callWith_type1 (thn (ha.run pos pins s σ H _ I h) fun us s1 ⟨vs, H1, I1, r1, q1⟩ => ?_) hs rfl))
  obtain ⟨a, xs, ex, hq, q⟩ := q1
  subst ex
  cases r1 with
  | cons r rr =>
    cases rr
    cases r
    obtain ⟨its, rv, p', hz⟩ := I1.tuple hq
    have hal : a < s1.heap.objs.size := by
      obtain ⟨o, e, _⟩ := p'
      exact Heap.lt_size e
    refine call_enumT p' fun h' he hit hk => wpAny_pyIter_enum he ?_
    refine ⟨s1.heap.objs.size + 1, [s1.heap.objs.size + 1, s1.heap.objs.size], _, _, H1, rfl, I1.kept (t' := s1.toks) hk, turn_enumT a (s1.heap.objs.size + 1) s1.heap.objs.size (fun z => absurd hal (by rw [← z]; exact Nat.not_lt.mpr (Nat.le_succ _))) (Nat.ne_of_lt hal) (Nat.succ_ne_self _), ⟨⟨.none, he⟩, hit⟩, fun b hb => ?_, q⟩
    have hle : s1.heap.objs.size ≤ b := by
      simp only [List.mem_cons, List.not_mem_nil, or_false] at hb
      rcases hb with rfl | rfl
      · exact Nat.le_succ _
      · exact Nat.le_refl _
    exact I1.fpOk hle (I1.hok.fresh hle)
/-! ### the mathematics: all fillings, in order -/
def cnt (n : Int) (ws : List Int) : Int := (ws.map fun x => n ^ x.toNat).sum
theorem cnt_take {n : Int} {ws : List Int} {i : Nat} {x : Int} (h : ws[i]? = some x) : cnt n (ws.take (i + 1)) = cnt n (ws.take i) + n ^ x.toNat := by
  unfold cnt
  rw [List.map_take, List.map_take]
  refine sum_take ?_
  rw [List.getElem?_map, h]
  rfl
theorem cnt_nonneg {n : Int} (h : 0 ≤ n) : ∀ ws : List Int, 0 ≤ cnt n ws
  | [] => Int.le_refl 0
  | x :: r => by
    have ih := cnt_nonneg h r
    have h1 : 0 ≤ n ^ x.toNat := Int.pow_nonneg h
    show 0 ≤ (n ^ x.toNat :: r.map fun x => n ^ x.toNat).sum
    rw [List.sum_cons]
    exact Int.add_nonneg h1 ih
theorem cnt_app (n : Int) (a b : List Int) : cnt n (a ++ b) = cnt n a + cnt n b := by
  unfold cnt
  rw [List.map_append, List.sum_append]
theorem cnt_take_le {n : Int} (h : 0 ≤ n) (ws : List Int) (i : Nat) : cnt n (ws.take i) ≤ cnt n ws := by
  have e : cnt n ws = cnt n (ws.take i) + cnt n (ws.drop i) := by rw [← cnt_app, List.take_append_drop]
  have := cnt_nonneg h (ws.drop i)
  omega
theorem cnt_term {n : Int} (h : 0 ≤ n) {ws : List Int} {i : Nat} {x : Int} (e : ws[i]? = some x) : n ^ x.toNat ≤ cnt n ws := by
  have h1 := cnt_take (n := n) e
  have h2 := cnt_take_le h ws (i + 1)
  have h3 := cnt_nonneg h (ws.take i)
  omega
/-- all rows of w things below n, rising -/
def rows (n : Nat) : Nat → List (List Int)
  | 0 => [[]]
  | w + 1 => (rows n w).flatMap fun r => (List.range n).map fun (t : Nat) => r ++ [(t : Int)]
theorem rows_len (n : Nat) : ∀ w, (rows n w).length = n ^ w
  | 0 => rfl
  | w + 1 => by
    have ih := rows_len n w
    rw [rows, List.length_flatMap]
    have e : (List.map (fun a => ((List.range n).map fun (t : Nat) => a ++ [(t : Int)]).length) (rows n w)) = List.replicate (rows n w).length n := by
      rw [List.eq_replicate_iff]
      refine ⟨by rw [List.length_map], fun b hb => ?_⟩
      obtain ⟨a, _, rfl⟩ := List.mem_map.mp hb
      rw [List.length_map, List.length_range]
    rw [e, List.sum_replicate_nat, ih, Nat.pow_succ]
theorem rows_mem {n : Nat} : ∀ {w : Nat} {r : List Int}, r ∈ rows n w → r.length = w ∧ ∀ x ∈ r, 0 ≤ x ∧ x < (n : Int)
  | 0, r, h => by
    rw [List.mem_singleton.mp h]
    exact ⟨rfl, fun x hx => by cases hx⟩
  | w + 1, r, h => by
    obtain ⟨a, ha, hr⟩ := List.mem_flatMap.mp h
    obtain ⟨t, ht, rfl⟩ := List.mem_map.mp hr
    obtain ⟨h1, h2⟩ := rows_mem ha
    refine ⟨by rw [List.length_append, h1]; rfl, fun x hx => ?_⟩
    rcases List.mem_append.mp hx with hx | hx
    · exact h2 x hx
    · rw [List.mem_singleton.mp hx]
      have := List.mem_range.mp ht
      omega
def LtL : List Int → List Int → Prop
  | a :: as, b :: bs => a < b ∨ (a = b ∧ LtL as bs)
  | _, _ => False
theorem ltl_app : ∀ {a b : List Int} (c d : List Int), LtL a b → LtL (a ++ c) (b ++ d)
  | x :: xs, y :: ys, c, d, h => by
    rcases h with h | ⟨h1, h2⟩
    · exact .inl h
    · exact .inr ⟨h1, ltl_app c d h2⟩
theorem ltl_last : ∀ (a : List Int) {x y : Int}, x < y → LtL (a ++ [x]) (a ++ [y])
  | [], x, y, h => .inl h
  | z :: zs, x, y, h => .inr ⟨rfl, ltl_last zs h⟩
theorem rows_sorted (n : Nat) : ∀ w, (rows n w).Pairwise LtL
  | 0 => List.pairwise_singleton _ _
  | w + 1 => by
    rw [rows, List.pairwise_flatMap]
    refine ⟨fun r _ => ?_, (rows_sorted n w).imp fun {a b} h x hx y hy => ?_⟩
    · rw [List.pairwise_map]
      exact List.pairwise_lt_range.imp fun {i j} h => ltl_last r (by omega)
    · obtain ⟨i, _, rfl⟩ := List.mem_map.mp hx
      obtain ⟨j, _, rfl⟩ := List.mem_map.mp hy
      exact ltl_app _ _ h
def one (n : Nat) (ws : List Int) (j : Nat) : List (Int × List Int) := (rows n ((ws.getD j 0).toNat)).map fun r => ((j : Int), r)
/-- the fillings of the first i trays -/
def fills (n : Nat) (ws : List Int) (i : Nat) : List (Int × List Int) := (List.range i).flatMap (one n ws)
theorem fills_succ (n : Nat) (ws : List Int) (i : Nat) : fills n ws (i + 1) = fills n ws i ++ one n ws i := by
  unfold fills
  rw [List.range_succ, List.flatMap_append]
  simp
theorem fills_len {n : Nat} {ws : List Int} : ∀ {i : Nat}, i ≤ ws.length → ((fills n ws i).length : Int) = cnt (n : Int) (ws.take i)
  | 0, _ => by
    rw [List.take_zero]
    rfl
  | i + 1, h => by
    have ih := fills_len (n := n) (ws := ws) (i := i) (by omega)
    have g : ws[i]? = some ws[i] := List.getElem?_eq_getElem (by omega)
    rw [fills_succ, List.length_append, cnt_take g]
    unfold one
    rw [List.length_map, rows_len, List.getD_eq_getElem?_getD, g]
    show (((fills n ws i).length + n ^ ws[i].toNat : Nat) : Int) = _
    rw [Int.natCast_add, ih, Int.natCast_pow]
def LtP (a b : Int × List Int) : Prop := a.1 < b.1 ∨ (a.1 = b.1 ∧ LtL a.2 b.2)
theorem fills_sorted (n : Nat) (ws : List Int) (i : Nat) : (fills n ws i).Pairwise LtP := by
  unfold fills
  rw [List.pairwise_flatMap]
  refine ⟨fun j _ => ?_, List.pairwise_lt_range.imp fun {a b} h x hx y hy => ?_⟩
  · unfold one
    rw [List.pairwise_map]
    exact (rows_sorted n _).imp fun h => .inr ⟨rfl, h⟩
  · obtain ⟨r, _, rfl⟩ := List.mem_map.mp hx
    obtain ⟨q, _, rfl⟩ := List.mem_map.mp hy
    exact .inl (show (a : Int) < (b : Int) by omega)
theorem fills_mem {n : Nat} {ws : List Int} {i : Nat} {p : Int × List Int} (hi : i ≤ ws.length) (hw : ∀ x ∈ ws, 0 ≤ x ∧ x ≤ 12) (h : p ∈ fills n ws i) : 0 ≤ p.1 ∧ p.1 < (ws.length : Int) ∧ ws[p.1.toNat]? = some ((p.2.length : Nat) : Int) ∧ ∀ x ∈ p.2, 0 ≤ x ∧ x < (n : Int) := by
  obtain ⟨j, hj, hp⟩ := List.mem_flatMap.mp h
  have hj' := List.mem_range.mp hj
  obtain ⟨r, hr, rfl⟩ := List.mem_map.mp hp
  obtain ⟨h1, h2⟩ := rows_mem hr
  have g : ws[j]? = some ws[j] := List.getElem?_eq_getElem (by omega)
  have hb := hw ws[j] (List.getElem_mem _)
  refine ⟨by omega, by show (j : Int) < _; omega, ?_, h2⟩
  show ws[((j : Int)).toNat]? = some ((r.length : Nat) : Int)
  rw [h1, List.getD_eq_getElem?_getD, g, Int.toNat_natCast]
  rw [g]
  congr 1
  show ws[j] = ((ws[j].toNat : Nat) : Int)
  omega
theorem pow_le_of {n : Nat} {i w : Nat} (h : i ≤ w) (hw : n ^ w ≤ 2000) : n ^ i ≤ 2000 := by
  cases n with
  | zero =>
    cases i with
    | zero => exact by decide
    | succ i => rw [Nat.zero_pow (by omega)]; omega
  | succ n => exact Nat.le_trans (Nat.pow_le_pow_right (by omega) h) hw
/-! ### < of pairs as the model has it -/
def dPair (p : Int × List Int) : PyData := .tuple [.int p.1, .tuple (p.2.map PyData.int)]
theorem alike_ints : ∀ a b : List Int, PySem.W.alikeAll (a.map PyData.int) (b.map PyData.int) = true
  | [], b => by simp [PySem.W.alikeAll]
  | x :: a, [] => by simp [PySem.W.alikeAll]
  | x :: a, y :: b => by
    have ih := alike_ints a b
    simp only [List.map_cons, PySem.W.alikeAll, PySem.W.alike, Bool.true_and]
    exact ih
theorem alike_pair (p q : Int × List Int) : PySem.W.alike (dPair p) (dPair q) = true := by
  have h := alike_ints p.2 q.2
  simp only [dPair, PySem.W.alike, PySem.W.alikeAll, h, Bool.and_true]
theorem eqv_ints_ne {a b : Int} (h : a ≠ b) : PyData.eqv (.int a) (.int b) = false := by
  simp only [PyData.eqv]
  exact beq_eq_false_iff_ne.mpr h
theorem eqv_int (a : Int) : PyData.eqv (.int a) (.int a) = true := by
  simp only [PyData.eqv]
  exact beq_self_eq_true a
theorem ltl_data : ∀ {a b : List Int}, LtL a b → PyProof.Rows.lexLt PyProof.Rows.itemOrd (PySem.W.keyToksAll (a.map PyData.int)) (PySem.W.keyToksAll (b.map PyData.int)) = true ∧ PyData.eqvAll (a.map PyData.int) (b.map PyData.int) = false
  | x :: xs, y :: ys, h => by
    rw [List.map_cons, List.map_cons]
    by_cases e : x = y
    · subst e
      rcases h with h | ⟨_, h⟩
      · exact absurd h (Int.lt_irrefl x)
      · obtain ⟨h1, h2⟩ := ltl_data h
        refine ⟨?_, ?_⟩
        · rw [PySem.W.dataLt_all_yes (by simp [PySem.W.alike]) (eqv_int x)]
          exact h1
        · rw [PySem.W.eqv_all_cons, h2, Bool.and_false]
    · have hlt : x < y := by
        rcases h with h | ⟨h, _⟩
        · exact h
        · exact absurd h e
      refine ⟨?_, ?_⟩
      · rw [PySem.W.dataLt_all_no (by simp [PySem.W.alike]) (eqv_ints_ne e), PySem.W.dataLt_int]
        exact decide_eq_true hlt
      · rw [PySem.W.eqv_all_cons, eqv_ints_ne e, Bool.false_and]
theorem ltp_data {p q : Int × List Int} (h : LtP p q) : PySem.W.dataLt (dPair p) (dPair q) = true := by
  unfold dPair
  rw [PySem.W.dataLt_tuple]
  by_cases e : p.1 = q.1
  · rcases h with h | ⟨_, h⟩
    · omega
    · obtain ⟨h1, h2⟩ := ltl_data h
      rw [e, PySem.W.dataLt_all_yes (by simp [PySem.W.alike]) (eqv_int q.1)]
      rw [PySem.W.dataLt_all_no (by simp only [PySem.W.alike]; exact alike_ints _ _) (by simp only [PyData.eqv]; exact h2), PySem.W.dataLt_tuple]
      exact h1
  · rw [PySem.W.dataLt_all_no (by simp [PySem.W.alike]) (eqv_ints_ne e), PySem.W.dataLt_int]
    rcases h with h | ⟨h, _⟩
    · exact decide_eq_true h
    · exact absurd h e
/-- the inner walk over a range of a comprehension with two fors -/
theorem in_range {n : Nat} {g : TG} {tt : TT} {te : TE} {vs : List Nat} {σ : L2.St} {H4 : Hp} {D : Addr} {Nx : Hp → Prop} (Pv : Nat → Hp → Prop) (h0 : Pv 0 H4)
    (hs : ∀ j H, j < n → Pv j H → g (.int (0 + j)) (wipe σ vs) H fun σ3 H5 => wipe σ3 vs = wipe σ vs ∧ tt σ3 H5 fun b H6 => if b = true then te σ3 H6 fun y H7 => ∃ acc, H7 D = some (.lst acc) ∧ acc.length < sizeLine ∧ Pv (j + 1) (upd H7 D (.lst (acc ++ [y]))) else Pv (j + 1) H6)
    (hd : ∀ H, Pv n H → Nx H) :
    ∃ W1 : Nat → Nat → Hp → Prop, (∃ m, W1 0 m H4) ∧ ∀ j k H, W1 j k H → ((Itr 0 n).stop j H ∧ Nx H) ∨ ((Itr 0 n).go j H ∧ ∃ Nx1 : Hp → Prop, (∀ H', Nx1 H' → ∃ k', k' < k ∧ W1 (j + 1) k' H') ∧ ∀ x H', (Itr 0 n).yld j H x H' → g x (wipe σ vs) H' fun σ3 H5 => wipe σ3 vs = wipe σ vs ∧ tt σ3 H5 fun b H6 =>
      if b = true then te σ3 H6 fun y H7 => ∃ acc, H7 D = some (.lst acc) ∧ acc.length < sizeLine ∧ Nx1 (upd H7 D (.lst (acc ++ [y]))) else Nx1 H6) := by
  refine ⟨fun j m H => m = n - j ∧ j ≤ n ∧ Pv j H, ⟨n, by omega, Nat.zero_le _, h0⟩, fun j k H hW => ?_⟩
  obtain ⟨rfl, hj, p⟩ := hW
  by_cases hlt : j < n
  · refine .inr ⟨hlt, Pv (j + 1), fun H' p' => ⟨n - (j + 1), by omega, rfl, hlt, p'⟩, fun x H' y => ?_⟩
    obtain ⟨e, y⟩ := y
    subst e y
    exact hs j _ hlt p
  · obtain rfl : j = n := by omega
    exact .inl ⟨Nat.le_refl _, hd H p⟩
/-- the outer walk over a list -/
theorem out_list {K : PySem.W.Frag} {a : Addr} {xs : List V} {D : Addr} {H1 : Hp} {Qd : Hp → Prop} {body : (Hp → Prop) → V → Hp → Prop} (Pv : Nat → Hp → Prop) (h0 : Pv 0 (upd H1 D (.lst []))) (hl : ∀ i H, i ≤ xs.length → Pv i H → SqL K H a xs)
    (hs : ∀ i x H, xs[i]? = some x → Pv i H → body (Pv (i + 1)) x H) (hd : ∀ H, Pv xs.length H → Qd H) :
    ∃ W : Nat → Nat → Hp → Prop, (∃ m, W 0 m (upd H1 D (.lst []))) ∧ ∀ i m H, W i m H → ((Itl K a).stop i H ∧ Qd H) ∨ ((Itl K a).go i H ∧ ∃ Nx : Hp → Prop, (∀ H', Nx H' → ∃ m', m' < m ∧ W (i + 1) m' H') ∧ ∀ x H', (Itl K a).yld i H x H' → body Nx x H') := by
  refine ⟨fun i m H => m = xs.length - i ∧ i ≤ xs.length ∧ Pv i H, ⟨xs.length, by omega, Nat.zero_le _, h0⟩, fun i m H hW => ?_⟩
  obtain ⟨rfl, hi, p⟩ := hW
  have q := hl i H hi p
  by_cases hlt : i < xs.length
  · refine .inr ⟨⟨xs, xs[i], q, by simp [hlt]⟩, Pv (i + 1), fun H' p' => ⟨xs.length - (i + 1), by omega, rfl, hlt, p'⟩, fun x H' y => ?_⟩
    obtain ⟨e, y⟩ := y
    subst e
    exact hs i x _ (y xs q) p
  · obtain rfl : i = xs.length := by omega
    exact .inl ⟨⟨xs, q, Nat.le_refl _⟩, hd H p⟩
theorem small2000 {n : Nat} (h : n ≤ 3000) : n < sizeLine := Nat.lt_of_le_of_lt h (by decide)
/-- what H says of tuples H' says too -/
def KeepT (H H' : Hp) : Prop := ∀ a ys, H a = some (.tup ys) → H' a = some (.tup ys)
theorem KeepT.of_same {H H' : Hp} (h : Same H H') : KeepT H H' := fun a ys e => h a _ e
theorem keep_lst {H : Hp} {D : Addr} {acc acc' : List V} (h : H D = some (.lst acc)) : KeepT H (upd H D (.lst acc')) := fun a ys e => by
  rw [upd_ne (ne_of e h (fun z => by cases z))]
  exact e
/-- xs are tuples of the rows rs -/
def Tups (H : Hp) (xs : List V) (rs : List (List Int)) : Prop := xs.length = rs.length ∧ ∀ (i : Nat) (x : V) (r : List Int), xs[i]? = some x → rs[i]? = some r → ∃ a, x = .ref a ∧ H a = some (.tup (r.map V.int))
theorem Tups.keep {H H' : Hp} {xs : List V} {rs : List (List Int)} (h : Tups H xs rs) (k : KeepT H H') : Tups H' xs rs := ⟨h.1, fun i x r h1 h2 => by
  obtain ⟨a, e, q⟩ := h.2 i x r h1 h2
  exact ⟨a, e, k _ _ q⟩⟩
theorem Tups.push {H : Hp} {xs : List V} {rs : List (List Int)} {a : Addr} {r : List Int} (h : Tups H xs rs) (e : H a = some (.tup (r.map V.int))) : Tups H (xs ++ [.ref a]) (rs ++ [r]) := by
  refine ⟨by rw [List.length_append, List.length_append, h.1]; rfl, fun i x q h1 h2 => ?_⟩
  by_cases hi : i < xs.length
  · rw [List.getElem?_append_left hi] at h1
    rw [List.getElem?_append_left (by rw [← h.1]; exact hi)] at h2
    exact h.2 i x q h1 h2
  · have hlt : i < (xs ++ [V.ref a]).length := (List.getElem?_eq_some_iff.mp h1).1
    rw [List.length_append] at hlt
    have ei : i = xs.length := by
      have : ([V.ref a] : List V).length = 1 := rfl
      omega
    subst ei
    rw [List.getElem?_append_right (Nat.le_refl _), Nat.sub_self] at h1
    rw [h.1, List.getElem?_append_right (Nat.le_refl _), Nat.sub_self] at h2
    cases h1
    cases h2
    exact ⟨a, rfl, e⟩
theorem for_enumT {K : PySem.W.Frag} {a : Addr} {xs : List V} {g : TG} {tb : TS} {D : Ends} {σ : L2.St} {H : Hp} (Pv : Nat → L2.St → Hp → Prop) (h0 : Pv 0 σ H) (hl : ∀ i σ H, i ≤ xs.length → Pv i σ H → SqT K H a xs)
    (hs : ∀ (i : Nat) x σ H T, xs[i]? = some x → Pv i σ H → H T = none → g (.ref T) σ (upd H T (.tup [.int (i : Int), x])) fun σ2 H2 => tb { D with nx := Pv (i + 1), ct := Pv (i + 1), bk := D.nx } σ2 H2) (hd : ∀ σ H, Pv xs.length σ H → D.nx σ H) :
    ∃ W : Nat → Nat → L2.St → Hp → Prop, (∃ m, W 0 m σ H) ∧ ∀ i m σ H, W i m σ H →
      ((ItE K a).stop i H ∧ D.nx σ H) ∨ ((ItE K a).go i H ∧ ∃ N : L2.St → Hp → Prop, (∀ σ' H', N σ' H' → ∃ m', m' < m ∧ W (i + 1) m' σ' H') ∧ ∀ x H', (ItE K a).yld i H x H' → g x σ H' fun σ2 H2 => tb { D with nx := N, ct := N, bk := D.nx } σ2 H2) := by
  refine ⟨fun i m σ H => m = xs.length - i ∧ i ≤ xs.length ∧ Pv i σ H, ⟨xs.length, by omega, Nat.zero_le _, h0⟩, fun i m σ H hW => ?_⟩
  obtain ⟨rfl, hi, p⟩ := hW
  have q := hl i σ H hi p
  by_cases hlt : i < xs.length
  · refine .inr ⟨⟨xs, xs[i], q, by simp [hlt]⟩, Pv (i + 1), fun σ' H' p' => ⟨xs.length - (i + 1), by omega, rfl, hlt, p'⟩, fun x H' y => ?_⟩
    obtain ⟨T, z, rfl, hT, rfl, hz⟩ := y
    exact hs i z σ H T (hz xs q) p hT
  · obtain rfl : i = xs.length := by omega
    exact .inl ⟨⟨xs, q, Nat.le_refl _⟩, hd σ H p⟩
/-- xs are pairs of a tray's number and a tuple of things -/
def Pairs (H : Hp) (xs : List V) (fs : List (Int × List Int)) : Prop := xs.length = fs.length ∧ ∀ (i : Nat) (x : V) (p : Int × List Int), xs[i]? = some x → fs[i]? = some p → ∃ a b, x = .ref a ∧ H a = some (.tup [.int p.1, .ref b]) ∧ H b = some (.tup (p.2.map V.int))
theorem Pairs.keep {H H' : Hp} {xs : List V} {fs : List (Int × List Int)} (h : Pairs H xs fs) (k : KeepT H H') : Pairs H' xs fs := ⟨h.1, fun i x r h1 h2 => by
  obtain ⟨a, b, e, q1, q2⟩ := h.2 i x r h1 h2
  exact ⟨a, b, e, k _ _ q1, k _ _ q2⟩⟩
theorem Pairs.push {H : Hp} {xs : List V} {fs : List (Int × List Int)} {a b : Addr} {p : Int × List Int} (h : Pairs H xs fs) (e : H a = some (.tup [.int p.1, .ref b])) (e2 : H b = some (.tup (p.2.map V.int))) : Pairs H (xs ++ [.ref a]) (fs ++ [p]) := by
  refine ⟨by rw [List.length_append, List.length_append, h.1]; rfl, fun i x q h1 h2 => ?_⟩
  by_cases hi : i < xs.length
  · rw [List.getElem?_append_left hi] at h1
    rw [List.getElem?_append_left (by rw [← h.1]; exact hi)] at h2
    exact h.2 i x q h1 h2
  · have hlt : i < (xs ++ [V.ref a]).length := (List.getElem?_eq_some_iff.mp h1).1
    rw [List.length_append] at hlt
    have ei : i = xs.length := by
      have : ([V.ref a] : List V).length = 1 := rfl
      omega
    subst ei
    rw [List.getElem?_append_right (Nat.le_refl _), Nat.sub_self] at h1
    rw [h.1, List.getElem?_append_right (Nat.le_refl _), Nat.sub_self] at h2
    cases h1
    cases h2
    exact ⟨a, b, rfl, e, e2⟩
theorem Kp.get {p l b : Addr} {o : HO} {H H' : Hp} (k : Kp p l H H') (n : b ≠ p ∧ b ≠ l) (e : H b = some o) : H' b = some o := k b o n.1 n.2 e
/-- what the written part says of an own error C without more -/
structure ErrTxt (K : PySem.W.Frag) (mg : Str → Option Value) (x : Str) (C : Addr) : Prop where
  g : mg x = some (.ref C)
  k : PySem.W.keepIn K (.ref C) = true
  b : PySem.W.subIn K (.ref C) (.type "BaseException") = some true
  t : PySem.W.typeIn K (.ref C) = some (.type "type")

theorem lg59 : ((10 : Int) ^ (59 : Int).toNat).natAbs.log2 < 9000 := Nat.lt_of_lt_of_le (PySem.Flt.log2_lt_of (by decide : 0 < 200) (by decide +kernel)) (by decide)
theorem p59 : (0 : Int) < 10 ^ (59 : Int).toNat := by decide +kernel
theorem at_in {xs : List V} {r : Int} {n : Nat} (hn : xs.length = n) (h0 : 0 ≤ r) (h1 : r < (n : Int)) : ∃ v, v ∈ xs ∧ atI xs r = some v := by
  have h2 : r.toNat < xs.length := by omega
  exact ⟨xs[r.toNat], List.getElem_mem h2, at_of (j := r.toNat) (by omega) (List.getElem?_eq_getElem h2)⟩
theorem atW {ws : List Int} {i n : Int} (i0 : 0 ≤ i) (g : ws[i.toNat]? = some n) : atI (ws.map V.int) i = some (.int n) := at_of (j := i.toNat) (by omega) (by rw [List.getElem?_map, g]; rfl)
theorem at0 {x y : V} : atI [x, y] 0 = some x := atI_nat (j := 0) rfl
theorem at1 {x y : V} : atI [x, y] 1 = some y := atI_nat (j := 1) rfl
theorem Kp.keepT {p l : Addr} {H H' : Hp} (S : Sc p l H) (k : Kp p l H H') : KeepT H H' := by
  obtain ⟨n, ns, a, b, e1, e2, _⟩ := S
  exact fun c ys e => k c _ (ne_of e e1 (fun z => by cases z)) (ne_of e e2 (fun z => by cases z)) e
theorem KeepT.trans {H H1 H2 : Hp} (a : KeepT H H1) (b : KeepT H1 H2) : KeepT H H2 := fun c ys e => b c ys (a c ys e)
theorem tab_ne {H : Hp} {p l P : Addr} (S : Sc p l H) (G : GxR.TabG H P) : P ≠ p ∧ P ≠ l := by
  obtain ⟨ps, h, _⟩ := G
  obtain ⟨n, ns, a, b, e1, e2, _⟩ := S
  exact ⟨ne_of h e1 (fun z => by cases z), ne_of h e2 (fun z => by cases z)⟩
theorem TabG_kp {H H' : Hp} {p l P : Addr} (S : Sc p l H) (G : GxR.TabG H P) (k : Kp p l H H') : GxR.TabG H' P := by
  have n := tab_ne S G
  obtain ⟨ps, h, t⟩ := G
  exact ⟨ps, k.get n h, t⟩
theorem tab_keep {H H' : Hp} {P b : Addr} {o : HO} (G : GxR.TabG H P) (k : GxR.Tabbed P H H') (e : H b = some o) (n : ∀ z, o ≠ .tbl z) : H' b = some o := by
  rw [k.2 b fun z => ?_]
  · exact e
  · obtain ⟨ps, hP, _⟩ := G
    rw [z, hP] at e
    exact n ps (Option.some.inj e).symm
theorem Sc_tab {H H' : Hp} {p l P : Addr} (S : Sc p l H) (G : GxR.TabG H P) (k : GxR.Tabbed P H H') : Sc p l H' := by
  obtain ⟨n', ns, a, b, e1, e2, r⟩ := S
  exact ⟨n', ns, a, b, tab_keep G k e1 (fun z q => by cases q), tab_keep G k e2 (fun z q => by cases q), r⟩
/-- the source's records where another list is changed -/
theorem Sc.lst {p l D : Addr} {xs : List V} {H : Hp} (S : Sc p l H) (n : D ≠ p ∧ D ≠ l) : Sc p l (L2.upd H D (.lst xs)) := by
  obtain ⟨n', ns, a, b, e1, e2, r⟩ := S
  refine ⟨n', ns, a, b, ?_, ?_, r⟩
  · rw [upd_ne n.1.symm]
    exact e1
  · rw [upd_ne n.2.symm]
    exact e2
/-- a list that is new against H is changed -/
theorem Kp.lst {p l D : Addr} {xs : List V} {H H' : Hp} (k : Kp p l H H') (f : H D = none) : Kp p l H (L2.upd H' D (.lst xs)) := fun b o h1 h2 e => by
  rw [upd_ne (ne_of_none e f)]
  exact k b o h1 h2 e
/-! ### ways: a tuple of pairs of a number and a tuple of numbers -/
def Way (H : Hp) (a : Addr) (wy : List (Int × List Int)) : Prop := ∃ xs, H a = some (.tup xs) ∧ Pairs H xs wy
theorem Way.keep {H H' : Hp} {a : Addr} {wy : List (Int × List Int)} (h : Way H a wy) (k : KeepT H H') : Way H' a wy := by
  obtain ⟨xs, e, p⟩ := h
  exact ⟨xs, k _ _ e, p.keep k⟩
/-- wy is a way from ws to us -/
def WayOk (ws us : List Int) (wy : List (Int × List Int)) : Prop := wy.length = ws.length ∧ ∀ (i : Nat) (p : Int × List Int) (x : Int), wy[i]? = some p → ws[i]? = some x → 0 ≤ p.1 ∧ p.1 < (us.length : Int) ∧ us[p.1.toNat]? = some ((p.2.length : Nat) : Int) ∧ ∀ y ∈ p.2, 0 ≤ y ∧ y < x
/-! ### things at any depth, none of their lists the source's -/
mutual
inductive Dq (N : Addr → Prop) (H : Hp) : V → PyData → Prop
  | non : Dq N H .non .none
  | bl (b : Bool) : Dq N H (.bl b) (.bool b)
  | int (i : Int) : Dq N H (.int i) (.int i)
  | str (x : Str) : Dq N H (.str x) (.str x)
  | lst {a : Addr} {xs : List V} {ds : List PyData} : H a = some (.lst xs) → ¬ N a → DqAll N H xs ds → Dq N H (.ref a) (.list ds)
  | tup {a : Addr} {xs : List V} {ds : List PyData} : H a = some (.tup xs) → DqAll N H xs ds → Dq N H (.ref a) (.tuple ds)
inductive DqAll (N : Addr → Prop) (H : Hp) : List V → List PyData → Prop
  | nil : DqAll N H [] []
  | cons {v : V} {vs : List V} {d : PyData} {ds : List PyData} : Dq N H v d → DqAll N H vs ds → DqAll N H (v :: vs) (d :: ds)
end
/-- what is no record of the source's stays -/
def KeepD (N : Addr → Prop) (H H' : Hp) : Prop := (∀ a ys, H a = some (.tup ys) → H' a = some (.tup ys)) ∧ ∀ a ys, ¬ N a → H a = some (.lst ys) → H' a = some (.lst ys)
mutual
theorem Dq.keep {N : Addr → Prop} {H H' : Hp} (k : KeepD N H H') : ∀ {v : V} {d : PyData}, Dq N H v d → Dq N H' v d
  | _, _, .non => .non
  | _, _, .bl b => .bl b
  | _, _, .int i => .int i
  | _, _, .str x => .str x
  | _, _, .lst e n h => .lst (k.2 _ _ n e) n (DqAll.keep k h)
  | _, _, .tup e h => .tup (k.1 _ _ e) (DqAll.keep k h)
theorem DqAll.keep {N : Addr → Prop} {H H' : Hp} (k : KeepD N H H') : ∀ {vs : List V} {ds : List PyData}, DqAll N H vs ds → DqAll N H' vs ds
  | _, _, .nil => .nil
  | _, _, .cons a b => .cons (Dq.keep k a) (DqAll.keep k b)
end
mutual
theorem Dq.dp {N : Addr → Prop} {H : Hp} {K : PySem.W.Frag} : ∀ {v : V} {d : PyData}, Dq N H v d → Dp K H v d
  | _, _, .non => .non
  | _, _, .bl b => .bl b
  | _, _, .int i => .int i
  | _, _, .str x => .str x
  | _, _, .lst e _ h => .lst (SqL.of e) (DqAll.dp h)
  | _, _, .tup e h => .tup (SqT.of e) (DqAll.dp h)
theorem DqAll.dp {N : Addr → Prop} {H : Hp} {K : PySem.W.Frag} : ∀ {vs : List V} {ds : List PyData}, DqAll N H vs ds → DpAll K H vs ds
  | _, _, .nil => .nil
  | _, _, .cons a b => .cons (Dq.dp a) (DqAll.dp b)
end
theorem DqAll.len {N : Addr → Prop} {H : Hp} : ∀ {vs : List V} {ds : List PyData}, DqAll N H vs ds → vs.length = ds.length
  | _, _, .nil => rfl
  | _, _, .cons _ b => by rw [List.length_cons, List.length_cons, b.len]
theorem DqAll.get {N : Addr → Prop} {H : Hp} : ∀ {vs : List V} {ds : List PyData} {i : Nat} {v : V}, DqAll N H vs ds → vs[i]? = some v → ∃ d, ds[i]? = some d ∧ Dq N H v d
  | _, _, i, _, .nil, h => by simp at h
  | _, _, 0, _, .cons a b, h => by
    cases h
    exact ⟨_, rfl, a⟩
  | _, _, i + 1, _, .cons a b, h => b.get (i := i) h
theorem DqAll.ints {N : Addr → Prop} {H : Hp} : ∀ ns : List Int, DqAll N H (ns.map V.int) (ns.map PyData.int)
  | [] => .nil
  | n :: r => .cons (.int n) (DqAll.ints r)
/-- some datum -/
def Any (N : Addr → Prop) (H : Hp) (v : V) : Prop := ∃ d, Dq N H v d
theorem any_all {N : Addr → Prop} {H : Hp} : ∀ {vs : List V}, (∀ v ∈ vs, Any N H v) → ∃ ds, DqAll N H vs ds
  | [], _ => ⟨[], .nil⟩
  | v :: vs, h => by
    obtain ⟨d, hd⟩ := h v List.mem_cons_self
    obtain ⟨ds, hs⟩ := any_all (vs := vs) fun x hx => h x (List.mem_cons_of_mem _ hx)
    exact ⟨d :: ds, .cons hd hs⟩
theorem all_any {N : Addr → Prop} {H : Hp} : ∀ {vs : List V} {ds : List PyData}, DqAll N H vs ds → ∀ v ∈ vs, Any N H v
  | _, _, .nil, v, h => by cases h
  | _, _, .cons a b, v, h => by
    rcases List.mem_cons.mp h with rfl | h
    · exact ⟨_, a⟩
    · exact all_any b v h
theorem Any.keep {N : Addr → Prop} {H H' : Hp} {v : V} (h : Any N H v) (k : KeepD N H H') : Any N H' v := let ⟨d, hd⟩ := h; ⟨d, hd.keep k⟩
theorem any_non {N : Addr → Prop} {H : Hp} : Any N H .non := ⟨_, .non⟩
theorem any_bl {N : Addr → Prop} {H : Hp} {b : Bool} : Any N H (.bl b) := ⟨_, .bl b⟩
theorem any_int {N : Addr → Prop} {H : Hp} {i : Int} : Any N H (.int i) := ⟨_, .int i⟩
theorem any_str {N : Addr → Prop} {H : Hp} {x : Str} : Any N H (.str x) := ⟨_, .str x⟩
theorem any_tup {N : Addr → Prop} {a : Addr} {H : Hp} {xs : List V} (e : H a = some (.tup xs)) (h : ∀ x ∈ xs, Any N H x) : Any N H (.ref a) := let ⟨_, hs⟩ := any_all h; ⟨_, .tup e hs⟩
theorem any_lst {N : Addr → Prop} {a : Addr} {H : Hp} {xs : List V} (e : H a = some (.lst xs)) (n : ¬ N a) (h : ∀ x ∈ xs, Any N H x) : Any N H (.ref a) := let ⟨_, hs⟩ := any_all h; ⟨_, .lst e n hs⟩
/-! ### their types -/
def tyD : PyData → String
  | .none => "NoneType"
  | .bool _ => "bool"
  | .int _ => "int"
  | .str _ => "str"
  | .list _ => "list"
  | .tuple _ => "tuple"
  | .dict _ => "dict"
def wholeD : PyData → Bool
  | .int _ => true
  | _ => false
def tupD : PyData → Bool
  | .tuple _ => true
  | _ => false
def intD : PyData → Bool
  | .int _ => true
  | .bool _ => true
  | _ => false
def boolD : PyData → Bool
  | .bool _ => true
  | _ => false
theorem dq_ty {K : PySem.W.Frag} {N : Addr → Prop} {H : Hp} {v : V} {d : PyData} (h : Dq N H v d) : TyX K H v (.type (tyD d)) := by
  cases h with
  | non => exact .base .non
  | bl b => exact .base (.bl b)
  | int i => exact .base (.int i)
  | str x => exact .base (.str x)
  | lst e _ _ => exact .base (.lst e)
  | tup e _ => exact .base (.tup e)
theorem kit_tupD {d : PyData} (h : ∀ kvs, d ≠ .dict kvs) : kitB (tyD d) "tuple" = some (tupD d) := by
  cases d <;> first | decide +kernel | exact absurd rfl (h _) | rfl
theorem kit_intD {d : PyData} (h : ∀ kvs, d ≠ .dict kvs) : kitB (tyD d) "int" = some (intD d) := by
  cases d <;> first | decide +kernel | exact absurd rfl (h _) | rfl
theorem kit_boolD {d : PyData} (h : ∀ kvs, d ≠ .dict kvs) : kitB (tyD d) "bool" = some (boolD d) := by
  cases d <;> first | decide +kernel | exact absurd rfl (h _) | rfl
theorem dq_nodict {N : Addr → Prop} {H : Hp} {v : V} {d : PyData} (h : Dq N H v d) : ∀ kvs, d ≠ .dict kvs := by
  cases h <;> intro kvs e <;> cases e
theorem whole_eq (d : PyData) : (intD d && !boolD d) = wholeD d := by cases d <;> rfl
theorem wholeD_int {N : Addr → Prop} {H : Hp} {v : V} {d : PyData} (h : Dq N H v d) (e : wholeD d = true) : ∃ i, v = .int i ∧ d = .int i := by
  cases h <;> first | exact ⟨_, rfl, rfl⟩ | cases e
theorem tupD_tup {N : Addr → Prop} {H : Hp} {v : V} {d : PyData} (h : Dq N H v d) (e : tupD d = true) : ∃ a xs ds, v = .ref a ∧ d = .tuple ds ∧ H a = some (.tup xs) ∧ DqAll N H xs ds := by
  cases h with
  | tup e' hs => exact ⟨_, _, _, rfl, rfl, e', hs⟩
  | non => cases e
  | bl b => cases e
  | int i => cases e
  | str x => cases e
  | lst _ _ _ => cases e
/-! ### what the source's records leave -/
theorem Kp.keepD {p l : Addr} {N : Addr → Prop} {H H' : Hp} (S : Sc p l H) (k : Kp p l H H') (hp : N p) (hl : N l) : KeepD N H H' := by
  refine ⟨k.keepT S, fun c ys h e => k c _ (fun z => h (by rw [z]; exact hp)) (fun z => h (by rw [z]; exact hl)) e⟩
theorem Same.keepD {N : Addr → Prop} {H H' : Hp} (k : Same H H') : KeepD N H H' := ⟨fun _ _ e => k _ _ e, fun _ _ _ e => k _ _ e⟩
theorem KeepD.trans {N : Addr → Prop} {H H1 H2 : Hp} (a : KeepD N H H1) (b : KeepD N H1 H2) : KeepD N H H2 := ⟨fun c ys e => b.1 c ys (a.1 c ys e), fun c ys h e => b.2 c ys h (a.2 c ys h e)⟩
/-- a list among those that are left out is changed -/
theorem keepD_lst {N : Addr → Prop} {H : Hp} {D : Addr} {xs ys : List V} (e : H D = some (.lst xs)) (n : N D) : KeepD N H (upd H D (.lst ys)) := ⟨keep_lst e, fun a zs h q => by
  rw [upd_ne (fun z => h (by rw [z]; exact n))]
  exact q⟩
mutual
theorem Dq.weak {N N' : Addr → Prop} {H : Hp} (k : ∀ a, N' a → N a) : ∀ {v : V} {d : PyData}, Dq N H v d → Dq N' H v d
  | _, _, .non => .non
  | _, _, .bl b => .bl b
  | _, _, .int i => .int i
  | _, _, .str x => .str x
  | _, _, .lst e n h => .lst e (fun z => n (k _ z)) (DqAll.weak k h)
  | _, _, .tup e h => .tup e (DqAll.weak k h)
theorem DqAll.weak {N N' : Addr → Prop} {H : Hp} (k : ∀ a, N' a → N a) : ∀ {vs : List V} {ds : List PyData}, DqAll N H vs ds → DqAll N' H vs ds
  | _, _, .nil => .nil
  | _, _, .cons a b => .cons (Dq.weak k a) (DqAll.weak k b)
end
theorem Any.weak {N N' : Addr → Prop} {H : Hp} {v : V} (h : Any N H v) (k : ∀ a, N' a → N a) : Any N' H v := let ⟨d, hd⟩ := h; ⟨d, hd.weak k⟩
/-- all that are left out stand already -/
def Told (N : Addr → Prop) (H : Hp) : Prop := ∀ a, N a → H a ≠ none
theorem Told.new {N : Addr → Prop} {H : Hp} {a : Addr} (t : Told N H) (h : H a = none) : ¬ N a := fun z => t a z h
theorem Told.kp {p l : Addr} {N : Addr → Prop} {H H' : Hp} (t : Told N H) (S : Sc p l H') (k : Kp p l H H') : Told N H' := fun a n h => t a n (k.free S h)
theorem Told.upd {N : Addr → Prop} {H : Hp} {a : Addr} {o : HO} (t : Told N H) : Told N (L2.upd H a o) := fun b n h => by
  by_cases e : b = a
  · rw [e, upd_same] at h
    cases h
  · rw [upd_ne e] at h
    exact t b n h
/-! ### what is a way, of any datum -/
def wellD (x : Int) : PyData → Bool
  | .int i => decide (0 ≤ i) && decide (i < x)
  | _ => false
def pairD (us : List Int) (x : Int) : PyData → Bool
  | .tuple [.int t, .tuple ds] => decide (0 ≤ t) && decide (t < (us.length : Int)) && decide (us[t.toNat]? = some ((ds.length : Nat) : Int)) && ds.all (wellD x)
  | _ => false
def pairsD (us : List Int) : List Int → List PyData → Bool
  | x :: ws, d :: ds => pairD us x d && pairsD us ws ds
  | [], [] => true
  | _, _ => false
def isWayD (ws us : List Int) : PyData → Bool
  | .tuple ds => pairsD us ws ds
  | _ => false
theorem pairs_len {us : List Int} : ∀ {ws : List Int} {ds : List PyData}, ds.length ≠ ws.length → pairsD us ws ds = false
  | [], [], h => absurd rfl h
  | [], d :: ds, _ => rfl
  | x :: ws, [], _ => rfl
  | x :: ws, d :: ds, h => by
    rw [pairsD, pairs_len (ws := ws) (ds := ds) (fun e => h (by rw [List.length_cons, List.length_cons, e])), Bool.and_false]
theorem pairs_no {us : List Int} : ∀ {ws : List Int} {ds : List PyData} {i : Nat} {x : Int} {d : PyData}, ws[i]? = some x → ds[i]? = some d → pairD us x d = false → pairsD us ws ds = false
  | [], _, i, _, _, h, _, _ => by simp at h
  | _ :: _, [], i, _, _, _, h, _ => by simp at h
  | x :: ws, d :: ds, 0, _, _, h1, h2, h3 => by
    cases h1
    cases h2
    rw [pairsD, h3, Bool.false_and]
  | x :: ws, d :: ds, i + 1, _, _, h1, h2, h3 => by
    rw [pairsD, pairs_no (ws := ws) (ds := ds) (i := i) h1 h2 h3, Bool.and_false]
theorem pairs_yes {us : List Int} : ∀ {ws : List Int} {ds : List PyData}, ds.length = ws.length → (∀ (i : Nat) (x : Int) (d : PyData), ws[i]? = some x → ds[i]? = some d → pairD us x d = true) → pairsD us ws ds = true
  | [], [], _, _ => rfl
  | [], d :: ds, h, _ => by cases h
  | x :: ws, [], h, _ => by cases h
  | x :: ws, d :: ds, h, hh => by
    rw [pairsD, hh 0 x d rfl rfl, Bool.true_and]
    exact pairs_yes (Nat.succ.inj h) fun i x d h1 h2 => hh (i + 1) x d h1 h2
theorem pair_tup {us : List Int} {x : Int} {d : PyData} (h : tupD d = false) : pairD us x d = false := by
  cases d <;> first | rfl | cases h
theorem pair_len {us : List Int} {x : Int} {ds : List PyData} (h : ds.length ≠ 2) : pairD us x (.tuple ds) = false := by
  match ds, h with
  | [], _ => rfl
  | [a], _ => cases a <;> rfl
  | [_, _], h => exact absurd rfl h
  | a :: b :: c :: r, _ => cases a <;> first | rfl | (cases b <;> rfl)
theorem pair_whole {us : List Int} {x : Int} {d e : PyData} (h : wholeD d = false) : pairD us x (.tuple [d, e]) = false := by
  cases d <;> first | rfl | cases h
theorem pair_snd {us : List Int} {x : Int} {d e : PyData} (h : tupD e = false) : pairD us x (.tuple [d, e]) = false := by
  cases d <;> first | rfl | (cases e <;> first | rfl | cases h)
/-- a way as a datum -/
def dWay (wy : List (Int × List Int)) : PyData := .tuple (wy.map dPair)
theorem wells_ints {x : Int} {ns : List Int} (h : ∀ y ∈ ns, 0 ≤ y ∧ y < x) : (ns.map PyData.int).all (wellD x) = true := by
  rw [List.all_eq_true]
  intro d hd
  obtain ⟨y, hy, rfl⟩ := List.mem_map.mp hd
  show (decide (0 ≤ y) && decide (y < x)) = true
  rw [decide_eq_true (h y hy).1, decide_eq_true (h y hy).2]
  rfl
theorem isWayD_ok {ws us : List Int} {wy : List (Int × List Int)} (h : WayOk ws us wy) : isWayD ws us (dWay wy) = true := by
  refine pairs_yes (by rw [List.length_map]; exact h.1) fun i x d h1 h2 => ?_
  rw [List.getElem?_map] at h2
  cases e : wy[i]? with
  | none =>
    rw [e] at h2
    cases h2
  | some p =>
    rw [e] at h2
    cases h2
    obtain ⟨a, b, c, dd⟩ := h.2 i p x e h1
    show (decide (0 ≤ p.1) && decide (p.1 < (us.length : Int)) && decide (us[p.1.toNat]? = some (((p.2.map PyData.int).length : Nat) : Int)) && (p.2.map PyData.int).all (wellD x)) = true
    rw [decide_eq_true a, decide_eq_true b, List.length_map, decide_eq_true c, wells_ints dd]
    rfl
theorem dq_pair {N : Addr → Prop} {H : Hp} {a b : Addr} {q : Int × List Int} (e : H a = some (.tup [.int q.1, .ref b])) (e2 : H b = some (.tup (q.2.map V.int))) : Dq N H (.ref a) (dPair q) := .tup e (.cons (.int _) (.cons (.tup e2 (DqAll.ints q.2)) .nil))
theorem dq_pairs {N : Addr → Prop} {H : Hp} : ∀ {xs : List V} {fs : List (Int × List Int)}, Pairs H xs fs → DqAll N H xs (fs.map dPair)
  | [], [], _ => .nil
  | [], f :: fs, h => by cases h.1
  | x :: xs, [], h => by cases h.1
  | x :: xs, f :: fs, h => by
    obtain ⟨a, b, rfl, e1, e2⟩ := h.2 0 x f rfl rfl
    exact .cons (dq_pair e1 e2) (dq_pairs ⟨Nat.succ.inj h.1, fun i x p h1 h2 => h.2 (i + 1) x p h1 h2⟩)
theorem dq_way {N : Addr → Prop} {H : Hp} {a : Addr} {wy : List (Int × List Int)} (h : Way H a wy) : Dq N H (.ref a) (dWay wy) := by
  obtain ⟨xs, e, ps⟩ := h
  exact .tup e (dq_pairs ps)
/-! ### tuples put together and cut, whatever lies in them -/
theorem Told.same {N : Addr → Prop} {H H' : Hp} (t : Told N H) (s : Same H H') : Told N H' := fun a n h => t a n (s.free h)
theorem Any.same {N : Addr → Prop} {H H' : Hp} {v : V} (h : Any N H v) (s : Same H H') : Any N H' v := h.keep (Same.keepD s)
theorem same_refl {H : Hp} : Same H H := fun _ _ e => e
theorem r_cat {K : PySem.W.Frag} {H : Hp} {a b : Addr} {xs ys : List V} {Q : V → Hp → Prop} (ea : H a = some (.tup xs)) (eb : H b = some (.tup ys)) (hl : xs.length + ys.length ≤ 1000) (q : ∀ c H', Same H H' → H' c = some (.tup (xs ++ ys)) → Q (.ref c) H') : rCatA K (.ref a) (.ref b) H Q :=
  ⟨a, b, xs, ys, rfl, rfl, SqT.of ea, SqT.of eb, Nat.le_of_lt (small1000 hl), fun e => q b H same_refl (by rw [e]; exact eb), fun _ e => q a H same_refl (by rw [e, List.append_nil]; exact ea), fun _ _ p hp => q p _ (same_upd hp) upd_same⟩
theorem r_sl {K : PySem.W.Frag} {H : Hp} {a : Addr} {xs : List V} {lo hi : Option Int} {Q : V → Hp → Prop} (ea : H a = some (.tup xs)) (q : ∀ c H' zs, Same H H' → H' c = some (.tup zs) → (∀ z ∈ zs, z ∈ xs) → zs.length ≤ xs.length → Q (.ref c) H') : rSlA K (.ref a) lo hi H Q :=
  ⟨a, xs, rfl, SqT.of ea, fun _ => q a H xs same_refl ea (fun _ h => h) (Nat.le_refl _), fun _ p hp => q p _ _ (same_upd hp) upd_same (fun z h => List.mem_of_mem_drop (List.mem_of_mem_take h)) (cutV_length _ _ _)⟩
theorem r_slN {K : PySem.W.Frag} {σ : L2.St} {H : Hp} {a : Addr} {xs : List V} {lo : Option Int} {Q : V → Hp → Prop} (ea : H a = some (.tup xs)) (q : ∀ c H' zs, Same H H' → H' c = some (.tup zs) → (∀ z ∈ zs, z ∈ xs) → zs.length ≤ xs.length → Q (.ref c) H') : tNoPart σ H (fun u H3 => rSlA K (.ref a) lo u H3 Q) := r_sl ea q
theorem Any.mems {N : Addr → Prop} {H : Hp} {a : Addr} {xs : List V} (h : Any N H (.ref a)) (e : H a = some (.tup xs)) : ∀ x ∈ xs, Any N H x := by
  obtain ⟨d, hd⟩ := h
  cases hd with
  | lst e' _ _ =>
    rw [e] at e'
    cases e'
  | tup e' hs =>
    rw [e] at e'
    cases e'
    exact all_any hs
/-! ### the data of a way -/
theorem canLay_pairs : ∀ wy : List (Int × List Int), PyData.canLayAll0 (wy.map dPair) = true
  | [] => by simp [PyData.canLayAll0]
  | p :: r => by
    have ih := canLay_pairs r
    have h := canLay_ints p.2
    simp only [List.map_cons, PyData.canLayAll0, dPair, PyData.canLay0, Bool.true_and, Bool.and_true, h]
    exact ih
theorem depth_pairs : ∀ wy : List (Int × List Int), PyData.depthAll (wy.map dPair) ≤ 3
  | [] => by simp [PyData.depthAll]
  | p :: r => by
    have ih := depth_pairs r
    have h := depth_ints p.2
    simp only [List.map_cons, PyData.depthAll, dPair, PyData.depth]
    omega
theorem shaped_way (wy : List (Int × List Int)) : SeqAt.shaped (dWay wy) = true := by
  have h1 := canLay_pairs wy
  have h2 := depth_pairs wy
  unfold SeqAt.shaped
  rw [show PyData.canLay0 (dWay wy) = PyData.canLayAll0 (wy.map dPair) by simp only [dWay, PyData.canLay0], h1, Bool.true_and]
  refine decide_eq_true ?_
  rw [show PyData.depth (dWay wy) = PyData.depthAll (wy.map dPair) + 1 by simp only [dWay, PyData.depth]]
  omega
theorem eqv_way0 : ∀ wy : List (Int × List Int), PyData.eqv (dWay wy) (.tuple []) = wy.isEmpty
  | [] => by simp [dWay, PyData.eqv, PyData.eqvAll]
  | n :: r => by simp [dWay, PyData.eqv, PyData.eqvAll]
/-! ### heaps that grow by things -/
def AnyL (N : Addr → Prop) (H : Hp) (xs : List V) : Prop := ∀ x ∈ xs, Any N H x
theorem AnyL.keep {N : Addr → Prop} {H H' : Hp} {xs : List V} (h : AnyL N H xs) (k : KeepD N H H') : AnyL N H' xs := fun x hx => (h x hx).keep k
theorem AnyL.same {N : Addr → Prop} {H H' : Hp} {xs : List V} (h : AnyL N H xs) (s : Same H H') : AnyL N H' xs := h.keep (Same.keepD s)
theorem anyL_nil {N : Addr → Prop} {H : Hp} : AnyL N H [] := fun x hx => by cases hx
theorem anyL_cons {N : Addr → Prop} {H : Hp} {v : V} {xs : List V} (a : Any N H v) (b : AnyL N H xs) : AnyL N H (v :: xs) := fun x hx => by
  rcases List.mem_cons.mp hx with rfl | hx
  · exact a
  · exact b x hx
theorem anyL_app {N : Addr → Prop} {H : Hp} {xs ys : List V} (a : AnyL N H xs) (b : AnyL N H ys) : AnyL N H (xs ++ ys) := fun x hx => by
  rcases List.mem_append.mp hx with hx | hx
  · exact a x hx
  · exact b x hx
theorem anyL_ints {N : Addr → Prop} {H : Hp} (ns : List Int) : AnyL N H (ns.map V.int) := fun x hx => by
  obtain ⟨n, _, rfl⟩ := List.mem_map.mp hx
  exact any_int
/-- the source stands, the rest is kept, what is left out stands -/
structure Bu (N : Addr → Prop) (p l : Addr) (H0 H : Hp) : Prop where
  sc : Sc p l H
  kp : Kp p l H0 H
  td : Told N H
theorem Bu.same {N : Addr → Prop} {p l : Addr} {H0 H H' : Hp} (b : Bu N p l H0 H) (s : Same H H') : Bu N p l H0 H' := ⟨b.sc.same s, b.kp.trans (.of_same s), b.td.same s⟩
theorem Bu.draw {N : Addr → Prop} {p l : Addr} {H0 H H' : Hp} (b : Bu N p l H0 H) (S : Sc p l H') (k : Kp p l H H') : Bu N p l H0 H' := ⟨S, b.kp.trans k, b.td.kp S k⟩
theorem Bu.free {N : Addr → Prop} {p l a : Addr} {H0 H : Hp} (b : Bu N p l H0 H) (h : H a = none) : H0 a = none := b.kp.free b.sc h
/-- a new tuple -/
theorem new_tup {N : Addr → Prop} {H : Hp} {a : Addr} {xs : List V} (h : H a = none) (hx : AnyL N H xs) : Same H (upd H a (.tup xs)) ∧ Any N (upd H a (.tup xs)) (.ref a) := ⟨same_upd h, any_tup upd_same (hx.same (same_upd h))⟩
/-- a new list -/
theorem new_lst {N : Addr → Prop} {H : Hp} {a : Addr} {xs : List V} (t : Told N H) (h : H a = none) (hx : AnyL N H xs) : Same H (upd H a (.lst xs)) ∧ Any N (upd H a (.lst xs)) (.ref a) := ⟨same_upd h, any_lst upd_same (t.new h) (hx.same (same_upd h))⟩
/-- the list made of a way: at M, of n things -/
def Md (N : Addr → Prop) (p l : Addr) (H0 H3 : Hp) (M : Addr) (n : Nat) (H : Hp) : Prop := ∃ xs, H M = some (.lst xs) ∧ xs.length = n ∧ AnyL N H xs ∧ Bu N p l H0 H ∧ KeepT H3 H
theorem Md.same {N : Addr → Prop} {p l M : Addr} {H0 H3 H H' : Hp} {n : Nat} (m : Md N p l H0 H3 M n H) (s : Same H H') : Md N p l H0 H3 M n H' := by
  obtain ⟨xs, e, hn, ha, b, k⟩ := m
  exact ⟨xs, s _ _ e, hn, ha.same s, b.same s, k.trans (.of_same s)⟩
theorem Md.draw {N : Addr → Prop} {p l M : Addr} {H0 H3 H H' : Hp} {n : Nat} (m : Md N p l H0 H3 M n H) (np : N p) (nl : N l) (nM : M ≠ p ∧ M ≠ l) (S : Sc p l H') (k : Kp p l H H') : Md N p l H0 H3 M n H' := by
  obtain ⟨xs, e, hn, ha, b, k3⟩ := m
  exact ⟨xs, k.get nM e, hn, ha.keep (k.keepD b.sc np nl), b.draw S k, k3.trans (k.keepT b.sc)⟩
theorem Md.set {N : Addr → Prop} {p l M : Addr} {H0 H3 H : Hp} {n j : Nat} {v : V} {xs : List V} (m : Md N p l H0 H3 M n H) (e : H M = some (.lst xs)) (hM : N M) (nM : M ≠ p ∧ M ≠ l) (f : H0 M = none) (hv : Any N H v) : Md N p l H0 H3 M n (upd H M (.lst (xs.set j v))) := by
  obtain ⟨xs', e', hn, ha, b, k3⟩ := m
  rw [e] at e'
  cases e'
  have kd : KeepD N H (upd H M (.lst (xs.set j v))) := keepD_lst e hM
  refine ⟨_, upd_same, by rw [List.length_set]; exact hn, fun x hx => ?_, ⟨b.sc.lst nM, b.kp.lst f, b.td.upd⟩, k3.trans (keep_lst e)⟩
  rcases List.mem_or_eq_of_mem_set hx with hx | rfl
  · exact (ha x hx).keep kd
  · exact hv.keep kd
/-- the place ahead, the last one behind nought -/
theorem ahead {n : Nat} {a : Int} (h0 : 0 ≤ a) (h1 : a < (n : Int)) : ∃ j, ixN n (a - 1) = some j ∧ j < n := by
  unfold ixN
  by_cases h : 0 ≤ a - 1
  · rw [if_pos h, if_pos (by omega)]
    exact ⟨_, rfl, by omega⟩
  · rw [if_neg h, if_pos (by omega)]
    exact ⟨_, rfl, by omega⟩
theorem ixN_in {n : Nat} {a : Int} (h0 : 0 ≤ a) (h1 : a < (n : Int)) : ixN n a = some a.toNat := by
  unfold ixN
  rw [if_pos h0, if_pos h1]
theorem at_ixN {xs : List V} {i : Int} {j : Nat} (h : ixN xs.length i = some j) (hj : j < xs.length) : atI xs i = some xs[j] := by
  unfold atI
  rw [h]
  exact List.getElem?_eq_getElem hj
mutual
theorem Dq.eqv_refl {N : Addr → Prop} {H : Hp} : ∀ {v : V} {d : PyData}, Dq N H v d → PyData.eqv d d = true
  | _, _, .non => by simp [PyData.eqv]
  | _, _, .bl b => by simp [PyData.eqv]
  | _, _, .int i => by simp [PyData.eqv]
  | _, _, .str x => by simp [PyData.eqv]
  | _, _, .lst _ _ h => by
    have := DqAll.eqv_refl h
    simpa [PyData.eqv] using this
  | _, _, .tup _ h => by
    have := DqAll.eqv_refl h
    simpa [PyData.eqv] using this
theorem DqAll.eqv_refl {N : Addr → Prop} {H : Hp} : ∀ {vs : List V} {ds : List PyData}, DqAll N H vs ds → PyData.eqvAll ds ds = true
  | _, _, .nil => by simp [PyData.eqvAll]
  | _, _, .cons a b => by
    have h1 := Dq.eqv_refl a
    have h2 := DqAll.eqv_refl b
    simp [PyData.eqvAll, h1, h2]
end
theorem depthAll_cons (d : PyData) (ds : List PyData) : PyData.depthAll (d :: ds) = max (PyData.depth d) (PyData.depthAll ds) := by
  simp [PyData.depthAll]
theorem depthAll_nil : PyData.depthAll [] = 0 := by simp [PyData.depthAll]
theorem depth_tup (ds : List PyData) : PyData.depth (.tuple ds) = PyData.depthAll ds + 1 := by simp [PyData.depth]
theorem depth_lst (ds : List PyData) : PyData.depth (.list ds) = PyData.depthAll ds + 1 := by simp [PyData.depth]
theorem lay_cons (d : PyData) (ds : List PyData) : PyData.canLayAll0 (d :: ds) = (PyData.canLay0 d && PyData.canLayAll0 ds) := by simp [PyData.canLayAll0]
theorem lay_tup (ds : List PyData) : PyData.canLay0 (.tuple ds) = PyData.canLayAll0 ds := by simp [PyData.canLay0]
theorem lay_lst (ds : List PyData) : PyData.canLay0 (.list ds) = PyData.canLayAll0 ds := by simp [PyData.canLay0]
/-- a datum that is not deep -/
def Flat (n : Nat) (d : PyData) : Prop := PyData.canLay0 d = true ∧ PyData.depth d ≤ n
def FlatL (n : Nat) (ds : List PyData) : Prop := PyData.canLayAll0 ds = true ∧ PyData.depthAll ds ≤ n
theorem Flat.shaped {n : Nat} {d : PyData} (h : Flat n d) (hn : n ≤ 64) : SeqAt.shaped d = true := by
  unfold SeqAt.shaped
  rw [h.1, Bool.true_and]
  exact decide_eq_true (Nat.le_trans h.2 hn)
theorem flatL_nil {n : Nat} : FlatL n [] := ⟨by simp [PyData.canLayAll0], by rw [depthAll_nil]; omega⟩
theorem flatL_cons {n : Nat} {d : PyData} {ds : List PyData} (a : Flat n d) (b : FlatL n ds) : FlatL n (d :: ds) := ⟨by rw [lay_cons, a.1, b.1]; rfl, by
  rw [depthAll_cons]
  have h1 := a.2
  have h2 := b.2
  omega⟩
theorem flatL_of {n : Nat} : ∀ {ds : List PyData}, (∀ d ∈ ds, Flat n d) → FlatL n ds
  | [], _ => flatL_nil
  | d :: ds, h => flatL_cons (h d List.mem_cons_self) (flatL_of fun x hx => h x (List.mem_cons_of_mem _ hx))
theorem flatL_mem {n : Nat} : ∀ {ds : List PyData}, FlatL n ds → ∀ d ∈ ds, Flat n d
  | [], _, d, hd => by cases hd
  | e :: ds, h, d, hd => by
    obtain ⟨h1, h2⟩ := h
    rw [lay_cons, Bool.and_eq_true] at h1
    rw [depthAll_cons] at h2
    rcases List.mem_cons.mp hd with rfl | hd
    · exact ⟨h1.1, by omega⟩
    · exact flatL_mem (ds := ds) ⟨h1.2, by omega⟩ d hd
theorem flat_tup {n : Nat} {ds : List PyData} (h : FlatL n ds) : Flat (n + 1) (.tuple ds) := ⟨by rw [lay_tup]; exact h.1, by rw [depth_tup]; exact Nat.succ_le_succ h.2⟩
theorem flat_lst {n : Nat} {ds : List PyData} (h : FlatL n ds) : Flat (n + 1) (.list ds) := ⟨by rw [lay_lst]; exact h.1, by rw [depth_lst]; exact Nat.succ_le_succ h.2⟩
theorem Flat.mono {n m : Nat} {d : PyData} (h : Flat n d) (k : n ≤ m) : Flat m d := ⟨h.1, Nat.le_trans h.2 k⟩
theorem flat_int {n : Nat} (i : Int) : Flat n (.int i) := ⟨by simp [PyData.canLay0], by simp [PyData.depth]⟩
theorem flat_non {n : Nat} : Flat n .none := ⟨by simp [PyData.canLay0], by simp [PyData.depth]⟩
theorem flat_bl {n : Nat} (b : Bool) : Flat n (.bool b) := ⟨by simp [PyData.canLay0], by simp [PyData.depth]⟩
theorem flat_str {n : Nat} {x : Str} (h : PyData.strOk x = true) : Flat n (.str x) := ⟨by simp [PyData.canLay0, h], by simp [PyData.depth]⟩
theorem flatL_ints {n : Nat} (ns : List Int) : FlatL n (ns.map PyData.int) := flatL_of fun d hd => by
  obtain ⟨i, _, rfl⟩ := List.mem_map.mp hd
  exact flat_int i
/-- some flat datum -/
def AnyF (N : Addr → Prop) (n : Nat) (H : Hp) (v : V) : Prop := ∃ d, Dq N H v d ∧ Flat n d
theorem AnyF.keep {N : Addr → Prop} {n : Nat} {H H' : Hp} {v : V} (h : AnyF N n H v) (k : KeepD N H H') : AnyF N n H' v := let ⟨d, a, b⟩ := h; ⟨d, a.keep k, b⟩
theorem anyF_all {N : Addr → Prop} {n : Nat} {H : Hp} : ∀ {vs : List V}, (∀ v ∈ vs, AnyF N n H v) → ∃ ds, DqAll N H vs ds ∧ FlatL n ds
  | [], _ => ⟨[], .nil, flatL_nil⟩
  | v :: vs, h => by
    obtain ⟨d, hd, hf⟩ := h v List.mem_cons_self
    obtain ⟨ds, hs, hg⟩ := anyF_all (vs := vs) fun x hx => h x (List.mem_cons_of_mem _ hx)
    exact ⟨d :: ds, .cons hd hs, flatL_cons hf hg⟩
/-! ### numbers of fillings and of ways -/
/-- the number of a row of things below n -/
def dig (n : Int) : List Int → Int
  | [] => 0
  | t :: r => t * n ^ r.length + dig n r
def Below (n : Int) (r : List Int) : Prop := ∀ y ∈ r, 0 ≤ y ∧ y < n
theorem below_cons {n t : Int} {r : List Int} (h : Below n (t :: r)) : 0 ≤ t ∧ t < n ∧ Below n r := ⟨(h t List.mem_cons_self).1, (h t List.mem_cons_self).2, fun y hy => h y (List.mem_cons_of_mem _ hy)⟩
theorem pow_nn {n : Int} {k : Nat} (h : 0 ≤ n) : 0 ≤ n ^ k := Int.pow_nonneg h
/-- two places: less by the first -/
theorem two_lt {a b m x y : Int} (hm : 0 ≤ m) (ha : a < b) (hx : x < m) (hy : 0 ≤ y) : a * m + x < b * m + y := by
  have h : (a + 1) * m ≤ b * m := Int.mul_le_mul_of_nonneg_right (by omega) hm
  rw [Int.add_mul, Int.one_mul] at h
  omega
theorem dig_bound {n : Int} : ∀ {r : List Int}, Below n r → 0 ≤ dig n r ∧ dig n r < n ^ r.length
  | [], _ => ⟨Int.le_refl 0, by show (0 : Int) < n ^ 0; rw [Int.pow_zero]; decide⟩
  | t :: r, h => by
    obtain ⟨h0, h1, h2⟩ := below_cons h
    obtain ⟨i0, i1⟩ := dig_bound h2
    have hm : 0 ≤ n ^ r.length := pow_nn (by omega)
    refine ⟨Int.add_nonneg (Int.mul_nonneg h0 hm) i0, ?_⟩
    have := two_lt hm h1 i1 (Int.le_refl 0)
    rw [Int.add_zero] at this
    rw [List.length_cons, Int.pow_succ, Int.mul_comm (n ^ r.length) n]
    exact this
theorem dig_lt {n : Int} : ∀ {a b : List Int}, a.length = b.length → Below n a → Below n b → LtL a b → dig n a < dig n b
  | x :: a, y :: b, hl, ha, hb, h => by
    obtain ⟨x0, x1, x2⟩ := below_cons ha
    obtain ⟨y0, y1, y2⟩ := below_cons hb
    have hl' : a.length = b.length := by simpa using hl
    have hm : 0 ≤ n ^ b.length := pow_nn (by omega)
    show x * n ^ a.length + dig n a < y * n ^ b.length + dig n b
    rw [hl']
    rcases h with h | ⟨rfl, h⟩
    · have h1 := (dig_bound x2).2
      rw [hl'] at h1
      exact two_lt hm h h1 (dig_bound y2).1
    · have := dig_lt hl' x2 y2 h
      omega
theorem ltl_tri : ∀ {a b : List Int}, a.length = b.length → LtL a b ∨ a = b ∨ LtL b a
  | [], [], _ => .inr (.inl rfl)
  | x :: a, y :: b, hl => by
    have hl' : a.length = b.length := by simpa using hl
    by_cases h1 : x < y
    · exact .inl (.inl h1)
    · by_cases h2 : y < x
      · exact .inr (.inr (.inl h2))
      · obtain rfl : x = y := by omega
        rcases ltl_tri hl' with h | rfl | h
        · exact .inl (.inr ⟨rfl, h⟩)
        · exact .inr (.inl rfl)
        · exact .inr (.inr (.inr ⟨rfl, h⟩))
theorem dig_snoc (n t : Int) : ∀ r : List Int, dig n (r ++ [t]) = dig n r * n + t
  | [] => by simp [dig]
  | x :: r => by
    show x * n ^ (r ++ [t]).length + dig n (r ++ [t]) = (x * n ^ r.length + dig n r) * n + t
    rw [dig_snoc n t r, List.length_append, List.length_singleton, Int.pow_succ, Int.add_mul, Int.mul_assoc]
    omega
theorem dig_surj {n : Int} : ∀ (w : Nat) {k : Int}, 0 ≤ k → k < n ^ w → 0 ≤ n → ∃ r, r.length = w ∧ Below n r ∧ dig n r = k
  | 0, k, h0, h1, _ => ⟨[], rfl, (fun y hy => by cases hy), by
    have : n ^ 0 = 1 := Int.pow_zero n
    show (0 : Int) = k
    omega⟩
  | w + 1, k, h0, h1, hn => by
    have hp : 0 < n ^ w := by
      by_cases h : 0 < n ^ w
      · exact h
      · have : n ^ w = 0 := by
          have := pow_nn (k := w) hn
          omega
        rw [Int.pow_succ, this, Int.zero_mul] at h1
        omega
    obtain ⟨r, hl, hb, hd⟩ := dig_surj w (k := k % n ^ w) (Int.emod_nonneg _ (by omega)) (Int.emod_lt_of_pos _ hp) hn
    refine ⟨k / n ^ w :: r, by rw [List.length_cons, hl], fun y hy => ?_, ?_⟩
    · rcases List.mem_cons.mp hy with rfl | hy
      · refine ⟨Int.ediv_nonneg h0 (by omega), ?_⟩
        rw [Int.pow_succ, Int.mul_comm] at h1
        exact Int.ediv_lt_of_lt_mul hp h1
      · exact hb y hy
    · show k / n ^ w * n ^ r.length + dig n r = k
      rw [hl, hd, Int.mul_comm]
      exact Int.mul_ediv_add_emod k (n ^ w)
/-! ### fillings -/
def FillOk (n : Int) (us : List Int) (p : Int × List Int) : Prop := 0 ≤ p.1 ∧ p.1 < (us.length : Int) ∧ us[p.1.toNat]? = some ((p.2.length : Nat) : Int) ∧ Below n p.2
def fnum (n : Int) (us : List Int) (p : Int × List Int) : Int := cnt n (us.take p.1.toNat) + dig n p.2
theorem cnt_take_mono {n : Int} (h : 0 ≤ n) (us : List Int) {i j : Nat} (hij : i ≤ j) : cnt n (us.take i) ≤ cnt n (us.take j) := by
  have := cnt_take_le h (us.take j) i
  rw [List.take_take, Nat.min_eq_left hij] at this
  exact this
theorem fnum_step {n : Int} {us : List Int} {p : Int × List Int} (h : FillOk n us p) : cnt n (us.take p.1.toNat) ≤ fnum n us p ∧ fnum n us p < cnt n (us.take (p.1.toNat + 1)) := by
  obtain ⟨h0, h1, h2, h3⟩ := h
  obtain ⟨d0, d1⟩ := dig_bound h3
  have e := cnt_take (n := n) h2
  rw [Int.toNat_natCast] at e
  unfold fnum
  omega
theorem fnum_bound {n : Int} {us : List Int} {p : Int × List Int} (hn : 0 ≤ n) (h : FillOk n us p) : 0 ≤ fnum n us p ∧ fnum n us p < cnt n us := by
  obtain ⟨a, b⟩ := fnum_step h
  have h1 := cnt_nonneg hn (us.take p.1.toNat)
  have h2 := cnt_take_le hn us (p.1.toNat + 1)
  omega
theorem fnum_lt {n : Int} {us : List Int} {p q : Int × List Int} (hn : 0 ≤ n) (hp : FillOk n us p) (hq : FillOk n us q) (h : LtP p q) : fnum n us p < fnum n us q := by
  rcases h with h | ⟨e, h⟩
  · have a := (fnum_step hp).2
    have b := (fnum_step hq).1
    have c := cnt_take_mono hn us (i := p.1.toNat + 1) (j := q.1.toNat) (by have := hp.1; omega)
    omega
  · obtain ⟨_, _, p2, p3⟩ := hp
    obtain ⟨_, _, q2, q3⟩ := hq
    rw [e, q2] at p2
    have hl : p.2.length = q.2.length := by
      have := Option.some.inj p2
      omega
    have := dig_lt hl p3 q3 h
    unfold fnum
    rw [e]
    omega
theorem ltp_tri {n : Int} {us : List Int} {p q : Int × List Int} (hp : FillOk n us p) (hq : FillOk n us q) : LtP p q ∨ p = q ∨ LtP q p := by
  by_cases h1 : p.1 < q.1
  · exact .inl (.inl h1)
  · by_cases h2 : q.1 < p.1
    · exact .inr (.inr (.inl h2))
    · have e : p.1 = q.1 := by omega
      have p2 := hp.2.2.1
      rw [e, hq.2.2.1] at p2
      have hl : p.2.length = q.2.length := by
        have := Option.some.inj p2
        omega
      rcases ltl_tri hl with h | h | h
      · exact .inl (.inr ⟨e, h⟩)
      · exact .inr (.inl (Prod.ext e h))
      · exact .inr (.inr (.inr ⟨e.symm, h⟩))
theorem fnum_surj {n : Int} {us : List Int} (hn : 0 ≤ n) (hu : ∀ x ∈ us, 0 ≤ x) : ∀ (i : Nat) {k : Int}, i ≤ us.length → 0 ≤ k → k < cnt n (us.take i) → ∃ p, FillOk n us p ∧ fnum n us p = k
  | 0, k, _, h0, h1 => by
    rw [List.take_zero] at h1
    have : cnt n [] = 0 := rfl
    omega
  | i + 1, k, hi, h0, h1 => by
    by_cases hk : k < cnt n (us.take i)
    · exact fnum_surj hn hu i (by omega) h0 hk
    · have g : us[i]? = some us[i] := List.getElem?_eq_getElem (by omega)
      rw [cnt_take g] at h1
      obtain ⟨r, hl, hb, hd⟩ := dig_surj us[i].toNat (k := k - cnt n (us.take i)) (by omega) (by omega) hn
      have := hu _ (List.getElem_mem (show i < us.length by omega))
      refine ⟨((i : Int), r), ⟨by show (0 : Int) ≤ i; omega, by show (i : Int) < _; omega, ?_, hb⟩, ?_⟩
      · show us[((i : Int)).toNat]? = some ((r.length : Nat) : Int)
        rw [Int.toNat_natCast, g, hl]
        congr 1
        omega
      · show cnt n (us.take ((i : Int)).toNat) + dig n r = k
        rw [Int.toNat_natCast, hd]
        omega
/-! ### ways -/
def manyW (us : List Int) : List Int → Int
  | [] => 1
  | x :: ws => cnt x us * manyW us ws
def wnum (us : List Int) : List Int → List (Int × List Int) → Int
  | x :: ws, p :: wy => fnum x us p * manyW us ws + wnum us ws wy
  | _, _ => 0
theorem many_nn {us : List Int} : ∀ {ws : List Int}, (∀ x ∈ ws, 0 ≤ x) → 0 ≤ manyW us ws
  | [], _ => by show (0 : Int) ≤ 1; decide
  | x :: ws, h => Int.mul_nonneg (cnt_nonneg (h x List.mem_cons_self) us) (many_nn fun y hy => h y (List.mem_cons_of_mem _ hy))
theorem wayOk_cons {us ws : List Int} {x : Int} {p : Int × List Int} {wy : List (Int × List Int)} : WayOk (x :: ws) us (p :: wy) ↔ FillOk x us p ∧ WayOk ws us wy := by
  constructor
  · rintro ⟨hl, h⟩
    refine ⟨h 0 p x rfl rfl, by simpa using hl, fun i q y h1 h2 => h (i + 1) q y h1 h2⟩
  · rintro ⟨hp, hl, h⟩
    refine ⟨by simpa using hl, fun i q y h1 h2 => ?_⟩
    cases i with
    | zero =>
      cases h1
      cases h2
      exact hp
    | succ i => exact h i q y h1 h2
theorem wnum_bound {us : List Int} : ∀ {ws : List Int} {wy : List (Int × List Int)}, (∀ x ∈ ws, 0 ≤ x) → WayOk ws us wy → 0 ≤ wnum us ws wy ∧ wnum us ws wy < manyW us ws
  | [], wy, _, h => by
    have : wy = [] := List.length_eq_zero_iff.mp h.1
    subst this
    exact ⟨Int.le_refl 0, by show (0 : Int) < 1; decide⟩
  | x :: ws, [], _, h => by cases h.1
  | x :: ws, p :: wy, hw, h => by
    obtain ⟨hp, hr⟩ := wayOk_cons.mp h
    have hw' : ∀ y ∈ ws, 0 ≤ y := fun y hy => hw y (List.mem_cons_of_mem _ hy)
    obtain ⟨i0, i1⟩ := wnum_bound hw' hr
    obtain ⟨f0, f1⟩ := fnum_bound (hw x List.mem_cons_self) hp
    have hm := many_nn (us := us) hw'
    refine ⟨Int.add_nonneg (Int.mul_nonneg f0 hm) i0, ?_⟩
    have := two_lt hm f1 i1 (Int.le_refl 0)
    rw [Int.add_zero] at this
    exact this
theorem ltl_irr : ∀ {a : List Int}, LtL a a → False
  | x :: a, h => by
    rcases h with h | ⟨_, h⟩
    · omega
    · exact ltl_irr h
def LtW : List (Int × List Int) → List (Int × List Int) → Prop
  | p :: a, q :: b => LtP p q ∨ (p = q ∧ LtW a b)
  | _, _ => False
theorem wnum_lt {us : List Int} : ∀ {ws : List Int} {a b : List (Int × List Int)}, (∀ x ∈ ws, 0 ≤ x) → WayOk ws us a → WayOk ws us b → LtW a b → wnum us ws a < wnum us ws b
  | [], a, b, _, ha, hb, h => by
    have : a = [] := List.length_eq_zero_iff.mp ha.1
    subst this
    cases h
  | x :: ws, p :: a, q :: b, hw, ha, hb, h => by
    obtain ⟨hp, ha'⟩ := wayOk_cons.mp ha
    obtain ⟨hq, hb'⟩ := wayOk_cons.mp hb
    have hw' : ∀ y ∈ ws, 0 ≤ y := fun y hy => hw y (List.mem_cons_of_mem _ hy)
    show fnum x us p * manyW us ws + wnum us ws a < fnum x us q * manyW us ws + wnum us ws b
    rcases h with h | ⟨rfl, h⟩
    · exact two_lt (many_nn hw') (fnum_lt (hw x List.mem_cons_self) hp hq h) (wnum_bound hw' ha').2 (wnum_bound hw' hb').1
    · have := wnum_lt hw' ha' hb' h
      omega
theorem ltw_tri {us : List Int} : ∀ {ws : List Int} {a b : List (Int × List Int)}, WayOk ws us a → WayOk ws us b → LtW a b ∨ a = b ∨ LtW b a
  | [], a, b, ha, hb => by
    have h1 : a = [] := List.length_eq_zero_iff.mp ha.1
    have h2 : b = [] := List.length_eq_zero_iff.mp hb.1
    exact .inr (.inl (h1.trans h2.symm))
  | x :: ws, [], _, ha, _ => by cases ha.1
  | x :: ws, p :: a, [], _, hb => by cases hb.1
  | x :: ws, p :: a, q :: b, ha, hb => by
    obtain ⟨hp, ha'⟩ := wayOk_cons.mp ha
    obtain ⟨hq, hb'⟩ := wayOk_cons.mp hb
    rcases ltp_tri hp hq with h | rfl | h
    · exact .inl (.inl h)
    · rcases ltw_tri ha' hb' with h | rfl | h
      · exact .inl (.inr ⟨rfl, h⟩)
      · exact .inr (.inl rfl)
      · exact .inr (.inr (.inr ⟨rfl, h⟩))
    · exact .inr (.inr (.inl h))
/-- the lesser number is the lesser way -/
theorem ltw_of {us ws : List Int} {a b : List (Int × List Int)} (hw : ∀ x ∈ ws, 0 ≤ x) (ha : WayOk ws us a) (hb : WayOk ws us b) (h : wnum us ws a < wnum us ws b) : LtW a b := by
  rcases ltw_tri ha hb with q | rfl | q
  · exact q
  · omega
  · have := wnum_lt hw hb ha q
    omega
theorem wnum_inj {us ws : List Int} {a b : List (Int × List Int)} (hw : ∀ x ∈ ws, 0 ≤ x) (ha : WayOk ws us a) (hb : WayOk ws us b) (h : wnum us ws a = wnum us ws b) : a = b := by
  rcases ltw_tri ha hb with q | q | q
  · have := wnum_lt hw ha hb q
    omega
  · exact q
  · have := wnum_lt hw hb ha q
    omega
theorem wnum_surj {us : List Int} (hu : ∀ x ∈ us, 0 ≤ x) : ∀ {ws : List Int} {k : Int}, (∀ x ∈ ws, 0 ≤ x) → 0 ≤ k → k < manyW us ws → ∃ wy, WayOk ws us wy ∧ wnum us ws wy = k
  | [], k, _, h0, h1 => by
    refine ⟨[], ⟨rfl, fun i p x h => by cases h⟩, ?_⟩
    have h1 : k < 1 := h1
    show (0 : Int) = k
    omega
  | x :: ws, k, hw, h0, h1 => by
    have hw' : ∀ y ∈ ws, 0 ≤ y := fun y hy => hw y (List.mem_cons_of_mem _ hy)
    have h1 : k < cnt x us * manyW us ws := h1
    have hm : 0 < manyW us ws := by
      have := many_nn (us := us) hw'
      by_cases h : 0 < manyW us ws
      · exact h
      · have e : manyW us ws = 0 := by omega
        rw [e, Int.mul_zero] at h1
        omega
    obtain ⟨wy, ok, e⟩ := wnum_surj hu (ws := ws) (k := k % manyW us ws) hw' (Int.emod_nonneg _ (by omega)) (Int.emod_lt_of_pos _ hm)
    obtain ⟨p, hp, ep⟩ := fnum_surj (hw x List.mem_cons_self) hu us.length (k := k / manyW us ws) (Nat.le_refl _) (Int.ediv_nonneg h0 (by omega)) (by rw [List.take_length]; exact Int.ediv_lt_of_lt_mul hm h1)
    refine ⟨p :: wy, wayOk_cons.mpr ⟨hp, ok⟩, ?_⟩
    show fnum x us p * manyW us ws + wnum us ws wy = k
    rw [e, ep, Int.mul_comm]
    exact Int.mul_ediv_add_emod k (manyW us ws)
theorem many_app (us : List Int) : ∀ a b : List Int, manyW us (a ++ b) = manyW us a * manyW us b
  | [], b => by
    show manyW us b = 1 * manyW us b
    rw [Int.one_mul]
  | x :: a, b => by
    show cnt x us * manyW us (a ++ b) = cnt x us * manyW us a * manyW us b
    rw [many_app us a b, Int.mul_assoc]
theorem wnum_app {us : List Int} : ∀ {a b : List Int} {v w : List (Int × List Int)}, v.length = a.length → wnum us (a ++ b) (v ++ w) = wnum us a v * manyW us b + wnum us b w
  | [], b, [], w, _ => by
    show wnum us b w = 0 * manyW us b + wnum us b w
    omega
  | x :: a, b, p :: v, w, h => by
    show fnum x us p * manyW us (a ++ b) + wnum us (a ++ b) (v ++ w) = (fnum x us p * manyW us a + wnum us a v) * manyW us b + wnum us b w
    rw [wnum_app (by simpa using h), many_app, Int.add_mul, Int.mul_assoc]
    omega
theorem wayOk_app {us : List Int} : ∀ {a b : List Int} {v w : List (Int × List Int)}, WayOk a us v → WayOk b us w → WayOk (a ++ b) us (v ++ w)
  | [], b, v, w, h, k => by
    have : v = [] := List.length_eq_zero_iff.mp h.1
    subst this
    exact k
  | x :: a, b, [], w, h, k => by cases h.1
  | x :: a, b, p :: v, w, h, k => by
    obtain ⟨h1, h2⟩ := wayOk_cons.mp h
    exact wayOk_cons.mpr ⟨h1, wayOk_app h2 k⟩
/-! ### < and == of ways as the model has them -/
theorem alike_pairs : ∀ a b : List (Int × List Int), PySem.W.alikeAll (a.map dPair) (b.map dPair) = true
  | [], b => by simp [PySem.W.alikeAll]
  | x :: a, [] => by simp [PySem.W.alikeAll]
  | x :: a, y :: b => by
    have ih := alike_pairs a b
    have h := alike_pair x y
    simp only [List.map_cons, PySem.W.alikeAll, h, Bool.true_and]
    exact ih
theorem alike_way (a b : List (Int × List Int)) : PySem.W.alike (dWay a) (dWay b) = true := by
  have h := alike_pairs a b
  simp only [dWay, PySem.W.alike, h]
theorem eqvAll_ints : ∀ a b : List Int, PyData.eqvAll (a.map PyData.int) (b.map PyData.int) = decide (a = b)
  | [], [] => by simp [PyData.eqvAll]
  | [], y :: b => by simp [PyData.eqvAll]
  | x :: a, [] => by simp [PyData.eqvAll]
  | x :: a, y :: b => by
    rw [List.map_cons, List.map_cons, PySem.W.eqv_all_cons, eqvAll_ints a b]
    by_cases e : x = y
    · subst e
      rw [eqv_int, Bool.true_and]
      by_cases h : a = b
      · rw [decide_eq_true h, decide_eq_true (by rw [h])]
      · rw [decide_eq_false h, decide_eq_false fun q => h (List.cons.inj q).2]
    · rw [eqv_ints_ne e, Bool.false_and, decide_eq_false fun q => e (List.cons.inj q).1]
theorem eqv_pair (p q : Int × List Int) : PyData.eqv (dPair p) (dPair q) = decide (p = q) := by
  unfold dPair
  simp only [PyData.eqv]
  rw [PySem.W.eqv_all_cons, PySem.W.eqv_all_cons]
  simp only [PyData.eqv, PyData.eqvAll, Bool.and_true]
  rw [eqvAll_ints]
  by_cases h1 : p.1 = q.1
  · by_cases h2 : p.2 = q.2
    · rw [decide_eq_true h2, decide_eq_true (Prod.ext h1 h2), h1]
      simp
    · rw [decide_eq_false h2, decide_eq_false fun e => h2 (by rw [e]), Bool.and_false]
  · rw [decide_eq_false (show ¬ p = q from fun e => h1 (by rw [e]))]
    simp [h1]
theorem eqv_pairs : ∀ a b : List (Int × List Int), PyData.eqvAll (a.map dPair) (b.map dPair) = decide (a = b)
  | [], [] => by simp [PyData.eqvAll]
  | [], y :: b => by simp [PyData.eqvAll]
  | x :: a, [] => by simp [PyData.eqvAll]
  | x :: a, y :: b => by
    rw [List.map_cons, List.map_cons, PySem.W.eqv_all_cons, eqv_pairs a b, eqv_pair]
    by_cases e : x = y
    · subst e
      rw [decide_eq_true rfl, Bool.true_and]
      by_cases h : a = b
      · rw [decide_eq_true h, decide_eq_true (by rw [h])]
      · rw [decide_eq_false h, decide_eq_false fun q => h (List.cons.inj q).2]
    · rw [decide_eq_false e, Bool.false_and, decide_eq_false fun q => e (List.cons.inj q).1]
theorem eqv_way (a b : List (Int × List Int)) : PyData.eqv (dWay a) (dWay b) = decide (a = b) := by
  have h := eqv_pairs a b
  simp only [dWay, PyData.eqv]
  exact h
theorem ltw_data0 : ∀ {a b : List (Int × List Int)}, LtW a b → PyProof.Rows.lexLt PyProof.Rows.itemOrd (PySem.W.keyToksAll (a.map dPair)) (PySem.W.keyToksAll (b.map dPair)) = true
  | x :: a, y :: b, h => by
    rw [List.map_cons, List.map_cons]
    by_cases e : x = y
    · subst e
      rcases h with h | ⟨_, h⟩
      · exfalso
        rcases h with h | ⟨_, h⟩
        · omega
        · exact ltl_irr h
      · rw [PySem.W.dataLt_all_yes (alike_pair x x) (by rw [eqv_pair]; exact decide_eq_true rfl)]
        exact ltw_data0 h
    · rcases h with h | ⟨h, _⟩
      · rw [PySem.W.dataLt_all_no (alike_pair x y) (by rw [eqv_pair]; exact decide_eq_false e)]
        exact ltp_data h
      · exact absurd h e
theorem ltw_data {a b : List (Int × List Int)} (h : LtW a b) : PySem.W.dataLt (dWay a) (dWay b) = true := by
  unfold dWay
  rw [PySem.W.dataLt_tuple]
  exact ltw_data0 h
theorem ltl_no : ∀ {a b : List Int}, a = b ∨ LtL b a → PyProof.Rows.lexLt PyProof.Rows.itemOrd (PySem.W.keyToksAll (a.map PyData.int)) (PySem.W.keyToksAll (b.map PyData.int)) = false
  | [], [], _ => by
    simp [PySem.W.keyToksAll, PyProof.Rows.lexLt]
    decide
  | [], _ :: _, h => by
    rcases h with h | h
    · cases h
    · cases h
  | _ :: _, [], h => by
    rcases h with h | h
    · cases h
    · cases h
  | x :: xs, y :: ys, h => by
    rw [List.map_cons, List.map_cons]
    by_cases e : x = y
    · subst e
      rw [PySem.W.dataLt_all_yes (by simp [PySem.W.alike]) (eqv_int x)]
      refine ltl_no ?_
      rcases h with h | h | ⟨_, h⟩
      · exact .inl (List.cons.inj h).2
      · omega
      · exact .inr h
    · rw [PySem.W.dataLt_all_no (by simp [PySem.W.alike]) (eqv_ints_ne e), PySem.W.dataLt_int]
      refine decide_eq_false ?_
      rcases h with h | h | ⟨h, _⟩
      · exact absurd (List.cons.inj h).1 e
      · omega
      · exact absurd h.symm e
theorem ltp_no {p q : Int × List Int} (h : LtP q p) : PySem.W.dataLt (dPair p) (dPair q) = false := by
  unfold dPair
  rw [PySem.W.dataLt_tuple]
  by_cases e : p.1 = q.1
  · rcases h with h | ⟨_, h⟩
    · omega
    · have ne : ¬ p.2 = q.2 := fun z => ltl_irr (a := q.2) (by rw [z] at h; exact h)
      rw [e, PySem.W.dataLt_all_yes (by simp [PySem.W.alike]) (eqv_int q.1)]
      rw [PySem.W.dataLt_all_no (by simp only [PySem.W.alike]; exact alike_ints _ _) (by simp only [PyData.eqv]; rw [eqvAll_ints]; exact decide_eq_false ne), PySem.W.dataLt_tuple]
      exact ltl_no (.inr h)
  · rw [PySem.W.dataLt_all_no (by simp [PySem.W.alike]) (eqv_ints_ne e), PySem.W.dataLt_int]
    rcases h with h | ⟨h, _⟩
    · exact decide_eq_false (by omega)
    · exact absurd h.symm e
theorem ltw_no0 : ∀ {a b : List (Int × List Int)}, a = b ∨ LtW b a → PyProof.Rows.lexLt PyProof.Rows.itemOrd (PySem.W.keyToksAll (a.map dPair)) (PySem.W.keyToksAll (b.map dPair)) = false
  | [], [], _ => by
    simp [PySem.W.keyToksAll, PyProof.Rows.lexLt]
    decide
  | [], _ :: _, h => by
    rcases h with h | h
    · cases h
    · cases h
  | _ :: _, [], h => by
    rcases h with h | h
    · cases h
    · cases h
  | x :: a, y :: b, h => by
    rw [List.map_cons, List.map_cons]
    by_cases e : x = y
    · subst e
      rw [PySem.W.dataLt_all_yes (alike_pair x x) (by rw [eqv_pair]; exact decide_eq_true rfl)]
      refine ltw_no0 ?_
      rcases h with h | h | ⟨_, h⟩
      · exact .inl (List.cons.inj h).2
      · exfalso
        rcases h with h | ⟨_, h⟩
        · omega
        · exact ltl_irr h
      · exact .inr h
    · rw [PySem.W.dataLt_all_no (alike_pair x y) (by rw [eqv_pair]; exact decide_eq_false e)]
      rcases h with h | h | ⟨h, _⟩
      · exact absurd (List.cons.inj h).1 e
      · exact ltp_no h
      · exact absurd h.symm e
/-- < of two ways between the same crates is < of their numbers -/
theorem lt_way {us ws : List Int} {a b : List (Int × List Int)} (hw : ∀ x ∈ ws, 0 ≤ x) (ha : WayOk ws us a) (hb : WayOk ws us b) : PySem.W.dataLt (dWay a) (dWay b) = decide (wnum us ws a < wnum us ws b) := by
  by_cases h : wnum us ws a < wnum us ws b
  · rw [decide_eq_true h]
    exact ltw_data (ltw_of hw ha hb h)
  · rw [decide_eq_false h]
    unfold dWay
    rw [PySem.W.dataLt_tuple]
    refine ltw_no0 ?_
    rcases ltw_tri ha hb with q | q | q
    · exact absurd (wnum_lt hw ha hb q) h
    · exact .inl q
    · exact .inr q
/-! ### how great they are -/
theorem pow12 {n : Int} {k : Nat} (h0 : 0 ≤ n) (h1 : n ≤ 12) (hk : k ≤ 12) : n ^ k ≤ 8916100448256 := by
  obtain ⟨m, rfl⟩ := Int.eq_ofNat_of_zero_le h0
  have a : m ^ k ≤ 12 ^ k := Nat.pow_le_pow_left (by omega) k
  have b : 12 ^ k ≤ 12 ^ 12 := Nat.pow_le_pow_right (by decide) hk
  have c : (12 : Nat) ^ 12 = 8916100448256 := by decide
  have d : ((m : Int)) ^ k = ((m ^ k : Nat) : Int) := (Int.natCast_pow m k).symm
  rw [d]
  omega
theorem cnt_le {n : Int} (h0 : 0 ≤ n) (h1 : n ≤ 12) : ∀ {us : List Int}, (∀ u ∈ us, 0 ≤ u ∧ u ≤ 12) → cnt n us ≤ (us.length : Int) * 8916100448256
  | [], _ => by show (0 : Int) ≤ 0 * _; omega
  | u :: us, h => by
    have ih := cnt_le h0 h1 (us := us) fun y hy => h y (List.mem_cons_of_mem _ hy)
    have hu := h u List.mem_cons_self
    have hp := pow12 (n := n) (k := u.toNat) h0 h1 (by omega)
    have e : cnt n (u :: us) = n ^ u.toNat + cnt n us := by
      show (n ^ u.toNat :: us.map fun x => n ^ x.toNat).sum = _
      rw [List.sum_cons]
      rfl
    rw [e, List.length_cons]
    omega
/-- a factor that op_mul takes -/
theorem cnt_small {n : Int} {us : List Int} (h0 : 0 ≤ n) (h1 : n ≤ 12) (hu : ∀ u ∈ us, 0 ≤ u ∧ u ≤ 12) (hl : us.length ≤ 1000) : -2 ^ 64 < cnt n us ∧ cnt n us < 2 ^ 64 := by
  have a := cnt_nonneg h0 us
  have b := cnt_le h0 h1 hu
  omega
theorem many_take {us ws : List Int} {i : Nat} {x : Int} (h : ws[i]? = some x) : manyW us (ws.take (i + 1)) = manyW us (ws.take i) * cnt x us := by
  rw [List.take_add_one, h]
  show manyW us (ws.take i ++ [x]) = _
  rw [many_app]
  show manyW us (ws.take i) * (cnt x us * 1) = _
  rw [Int.mul_one]
theorem many_le {us : List Int} (hu : ∀ u ∈ us, 0 ≤ u ∧ u ≤ 12) (hl : us.length ≤ 1000) : ∀ {ws : List Int}, (∀ x ∈ ws, 0 ≤ x ∧ x ≤ 12) → manyW us ws ≤ 2 ^ (54 * ws.length)
  | [], _ => by show (1 : Int) ≤ 2 ^ 0; decide
  | x :: ws, h => by
    have hx := h x List.mem_cons_self
    have hws : ∀ y ∈ ws, 0 ≤ y ∧ y ≤ 12 := fun y hy => h y (List.mem_cons_of_mem _ hy)
    have ih := many_le hu hl hws
    have a := cnt_nonneg hx.1 us
    have b := cnt_le hx.1 hx.2 hu
    have c : cnt x us ≤ 2 ^ 54 := by
      have : (2 : Int) ^ 54 = 18014398509481984 := by decide
      omega
    have e : 54 * (x :: ws).length = 54 * ws.length + 54 := by rw [List.length_cons]; omega
    show cnt x us * manyW us ws ≤ 2 ^ (54 * (x :: ws).length)
    rw [e, Int.pow_add, Int.mul_comm]
    exact Int.mul_le_mul ih c a (pow_nn (by decide))
theorem many_log {us ws : List Int} (hu : ∀ u ∈ us, 0 ≤ u ∧ u ≤ 12) (hl : us.length ≤ 1000) (hw : ∀ x ∈ ws, 0 ≤ x ∧ x ≤ 12) (hk : ws.length ≤ 120) {m : Int} (h0 : 0 ≤ m) (h1 : m ≤ manyW us ws) : m.natAbs.log2 < 7000 := by
  refine Nat.lt_of_lt_of_le (PySem.Flt.log2_lt_of (by decide : 0 < 6500) ?_) (by decide)
  have a := many_le hu hl hw
  have b : (2 : Int) ^ (54 * ws.length) = ((2 ^ (54 * ws.length) : Nat) : Int) := (Int.natCast_pow 2 _).symm
  have c : 2 ^ (54 * ws.length) < 2 ^ 6500 := Nat.pow_lt_pow_right (by decide) (by omega)
  have d : m.natAbs ≤ 2 ^ (54 * ws.length) := by omega
  exact Nat.lt_of_le_of_lt d c
/-! ### the numbers from 0 on, the idle way -/
def iota (x : Int) : List Int := (List.range x.toNat).map fun (i : Nat) => (i : Int)
theorem iota_len (x : Int) : (iota x).length = x.toNat := by unfold iota; rw [List.length_map, List.length_range]
theorem iota_get {x : Int} {i : Nat} (h : i < x.toNat) : (iota x)[i]? = some (i : Int) := by
  unfold iota
  rw [List.getElem?_map, List.getElem?_range h]
  rfl
theorem rg_iota (x : Int) : rgV 0 x = (iota x).map V.int := by
  unfold rgV iota
  rw [Int.sub_zero, List.map_map]
  refine List.map_congr_left fun i _ => ?_
  show V.int (0 + (i : Int)) = V.int (i : Int)
  rw [Int.zero_add]
theorem iota_below (x : Int) : Below x (iota x) := fun y hy => by
  obtain ⟨i, hi, rfl⟩ := List.mem_map.mp hy
  have := List.mem_range.mp hi
  omega
def plainF (ws : List Int) (i : Nat) : Int × List Int := ((i : Int), iota (ws.getD i 0))
def idleW (ws : List Int) : List (Int × List Int) := (List.range ws.length).map (plainF ws)
theorem idle_len (ws : List Int) : (idleW ws).length = ws.length := by unfold idleW; rw [List.length_map, List.length_range]
theorem plainF_get {ws : List Int} {i : Nat} {x : Int} (h : ws[i]? = some x) : plainF ws i = ((i : Int), iota x) := by
  unfold plainF
  rw [List.getD_eq_getElem?_getD, h]
  rfl
theorem idle_get {ws : List Int} {i : Nat} {x : Int} (h : ws[i]? = some x) : (idleW ws)[i]? = some ((i : Int), iota x) := by
  unfold idleW
  rw [List.getElem?_map, List.getElem?_range (List.getElem?_eq_some_iff.mp h).1]
  show some (plainF ws i) = _
  rw [plainF_get h]
theorem idle_take (ws : List Int) {i : Nat} (h : i < ws.length) : (idleW ws).take (i + 1) = (idleW ws).take i ++ [plainF ws i] := by
  have g : ws[i]? = some ws[i] := List.getElem?_eq_getElem h
  rw [List.take_add_one, idle_get g, ← plainF_get g]
  rfl
theorem idle_ok {ws : List Int} (hw : ∀ x ∈ ws, 0 ≤ x) : WayOk ws ws (idleW ws) := by
  refine ⟨idle_len ws, fun i p x h1 h2 => ?_⟩
  rw [idle_get h2] at h1
  cases h1
  have h0 := hw x (List.mem_of_getElem? h2)
  have hi := (List.getElem?_eq_some_iff.mp h2).1
  refine ⟨by show (0 : Int) ≤ (i : Int); omega, by show (i : Int) < _; omega, ?_, iota_below x⟩
  show ws[((i : Int)).toNat]? = some (((iota x).length : Nat) : Int)
  rw [Int.toNat_natCast, h2, iota_len]
  congr 1
  omega
theorem Same.of_lst {H H' : Hp} {D : Addr} {xs : List V} (s : Same H H') (f : H D = none) : Same H (upd H' D (.lst xs)) := fun b o e => by
  rw [upd_ne (ne_of_none e f)]
  exact s b o e
theorem iteEq {c A B : Prop} [Decidable c] (hc : c) (h : A) : if decide c = true then A else B := by
  rw [decide_eq_true hc]
  exact iteT h
/-! ### what there is where a way is -/
theorem way_able {ws us : List Int} {wy : List (Int × List Int)} (h : WayOk ws us wy) (n : ∃ x ∈ ws, ∀ u ∈ us, ¬ (0 < x ∨ u = 0)) : False := by
  obtain ⟨x, hx, hn⟩ := n
  obtain ⟨i, hi, rfl⟩ := List.getElem_of_mem hx
  have hi2 : i < wy.length := by rw [h.1]; exact hi
  obtain ⟨h0, h1, h2, h3⟩ := h.2 i _ _ (List.getElem?_eq_getElem hi2) (List.getElem?_eq_getElem hi)
  have q := hn _ (List.mem_of_getElem? h2)
  cases e : wy[i].2 with
  | nil =>
    rw [e] at q
    exact q (.inr rfl)
  | cons y r =>
    have := h3 y (by rw [e]; exact List.mem_cons_self)
    exact q (.inl (by omega))
theorem depth_way (wy : List (Int × List Int)) : PyData.depth (dWay wy) ≤ 64 := by
  have h := depth_pairs wy
  rw [show PyData.depth (dWay wy) = PyData.depthAll (wy.map dPair) + 1 by simp only [dWay, PyData.depth]]
  omega
theorem way_dp {K : PySem.W.Frag} {H : Hp} {a : Addr} {wy : List (Int × List Int)} (h : Way H a wy) : Dp K H (.ref a) (dWay wy) := (dq_way (N := fun _ => False) h).dp
theorem way_none (wy : List (Int × List Int)) : dWay wy ≠ .none := fun e => by cases e
/-! ### promises of the counting -/
def spManyW : Sp := fun vs H Q _ => ∃ (t1 t2 : Addr) (ws us : List Int), vs = [.ref t1, .ref t2] ∧ H t1 = some (.tup (ws.map V.int)) ∧ H t2 = some (.tup (us.map V.int)) ∧ (∀ x ∈ ws, 0 ≤ x ∧ x ≤ 12) ∧ (∀ x ∈ us, 0 ≤ x ∧ x ≤ 12) ∧ ws.length ≤ 120 ∧ us.length ≤ 120 ∧ ∀ H', Same H H' → Q (.int (manyW us ws)) H'
def spNumOf : Sp := fun vs H Q _ => ∃ (t1 t2 tw : Addr) (ws us : List Int) (wy : List (Int × List Int)), vs = [.ref t1, .ref t2, .ref tw] ∧ H t1 = some (.tup (ws.map V.int)) ∧ H t2 = some (.tup (us.map V.int)) ∧ (∀ x ∈ ws, 0 ≤ x ∧ x ≤ 12) ∧ (∀ x ∈ us, 0 ≤ x ∧ x ≤ 12) ∧ ws.length ≤ 120 ∧ us.length ≤ 120 ∧ Way H tw wy ∧ WayOk ws us wy ∧ ∀ H', Same H H' → Q (.int (wnum us ws wy)) H'
def spWayAt : Sp := fun vs H Q _ => ∃ (t1 t2 : Addr) (ws us : List Int) (n : Int), vs = [.ref t1, .ref t2, .int n] ∧ H t1 = some (.tup (ws.map V.int)) ∧ H t2 = some (.tup (us.map V.int)) ∧ (∀ x ∈ ws, 0 ≤ x ∧ x ≤ 12) ∧ (∀ x ∈ us, 0 ≤ x ∧ x ≤ 12) ∧ ws.length ≤ 120 ∧ us.length ≤ 120 ∧ 0 ≤ n ∧ n < manyW us ws ∧ ∀ a wy H', Same H H' → Way H' a wy → WayOk ws us wy → wnum us ws wy = n → Q (.ref a) H'
/-! ### ways side by side, a tray more -/
theorem pairs_app {H : Hp} {xs ys : List V} {a b : List (Int × List Int)} (h : Pairs H xs a) (k : Pairs H ys b) : Pairs H (xs ++ ys) (a ++ b) := by
  refine ⟨by rw [List.length_append, List.length_append, h.1, k.1], fun i x p h1 h2 => ?_⟩
  by_cases hi : i < xs.length
  · rw [List.getElem?_append_left hi] at h1
    rw [List.getElem?_append_left (by rw [← h.1]; exact hi)] at h2
    exact h.2 i x p h1 h2
  · rw [List.getElem?_append_right (by omega)] at h1
    rw [List.getElem?_append_right (by rw [← h.1]; omega), ← h.1] at h2
    exact k.2 _ x p h1 h2
theorem wayOk_more {ws us : List Int} {wy : List (Int × List Int)} (h : WayOk ws us wy) : WayOk ws (us ++ [0]) wy := by
  refine ⟨h.1, fun i p x h1 h2 => ?_⟩
  obtain ⟨a, b, c, d⟩ := h.2 i p x h1 h2
  refine ⟨a, by rw [List.length_append]; show p.1 < ((us.length + 1 : Nat) : Int); omega, ?_, d⟩
  rw [List.getElem?_append_left (by omega)]
  exact c
theorem more_ok {us : List Int} (hu : ∀ x ∈ us, 0 ≤ x ∧ x ≤ 12) : ∀ x ∈ us ++ [0], 0 ≤ x ∧ x ≤ 12 := fun x hx => by
  rcases List.mem_append.mp hx with hx | hx
  · exact hu x hx
  · rw [List.mem_singleton.mp hx]
    exact ⟨by decide, by decide⟩
theorem no_able {ws us : List Int} (n : ∃ x ∈ ws, ∀ u ∈ us ++ [(0 : Int)], ¬ (0 < x ∨ u = 0)) : False := by
  obtain ⟨x, _, hx⟩ := n
  exact hx 0 (by simp) (.inr rfl)
theorem lg45 : ((10 : Int) ^ (45 : Int).toNat).natAbs.log2 < 9000 := Nat.lt_of_lt_of_le (PySem.Flt.log2_lt_of (by decide : 0 < 200) (by decide +kernel)) (by decide)
theorem p45 : (0 : Int) < 10 ^ (45 : Int).toNat := by decide +kernel
theorem lgr45 {r : Int} (h0 : 0 ≤ r) (h1 : r < 10 ^ (45 : Int).toNat) : r.natAbs.log2 < 200 := PySem.Flt.log2_lt_of (by decide : 0 < 200) (by
  have a : (10 : Int) ^ (45 : Int).toNat < ((2 ^ 200 : Nat) : Int) := by decide +kernel
  omega)
def spIdle : Sp := fun vs H Q _ => ∃ (t : Addr) (ws : List Int), vs = [.ref t] ∧ H t = some (.tup (ws.map V.int)) ∧ ws.length ≤ 60 ∧ (∀ x ∈ ws, 0 ≤ x ∧ x ≤ 12) ∧ ∀ a H', Same H H' → H a = none → Way H' a (idleW ws) → Q (.ref a) H'
/-! ### one way and then another -/
def pick (r : List Int) (y : Int) : Int := r.getD y.toNat 0
def stepW (w : List (Int × List Int)) (p : Int × List Int) : Int × List Int :=
  match w[p.1.toNat]? with
  | some q => (q.1, q.2.map (pick p.2))
  | none => (0, [])
def thenW (v w : List (Int × List Int)) : List (Int × List Int) := v.map (stepW w)
theorem step_some {w : List (Int × List Int)} {p q : Int × List Int} (h : w[p.1.toNat]? = some q) : stepW w p = (q.1, q.2.map (pick p.2)) := by
  unfold stepW
  rw [h]
theorem pick_in {r : List Int} {y : Int} (h0 : 0 ≤ y) (h1 : y < (r.length : Int)) : r[y.toNat]? = some (pick r y) := by
  unfold pick
  rw [List.getD_eq_getElem?_getD, List.getElem?_eq_getElem (by omega)]
  rfl
/-- the pair of a way where a filling of its first crate leads -/
theorem way_at {us xs : List Int} {w : List (Int × List Int)} {x : Int} {p : Int × List Int} (hw : WayOk us xs w) (hp : FillOk x us p) : ∃ q, w[p.1.toNat]? = some q ∧ FillOk ((p.2.length : Nat) : Int) xs q := by
  obtain ⟨h0, h1, h2, h3⟩ := hp
  have hl : p.1.toNat < w.length := by rw [hw.1]; omega
  exact ⟨w[p.1.toNat], List.getElem?_eq_getElem hl, hw.2 _ _ _ (List.getElem?_eq_getElem hl) h2⟩
theorem step_ok {us xs : List Int} {w : List (Int × List Int)} {x : Int} {p : Int × List Int} (hw : WayOk us xs w) (hp : FillOk x us p) : FillOk x xs (stepW w p) := by
  obtain ⟨q, hq, q0, q1, q2, q3⟩ := way_at hw hp
  rw [step_some hq]
  refine ⟨q0, q1, by rw [List.length_map]; exact q2, fun y hy => ?_⟩
  obtain ⟨z, hz, rfl⟩ := List.mem_map.mp hy
  obtain ⟨z0, z1⟩ := q3 z hz
  exact hp.2.2.2 _ (List.mem_of_getElem? (pick_in z0 z1))
theorem then_len (v w : List (Int × List Int)) : (thenW v w).length = v.length := List.length_map ..
theorem then_get {v w : List (Int × List Int)} {i : Nat} {p : Int × List Int} (h : v[i]? = some p) : (thenW v w)[i]? = some (stepW w p) := by
  unfold thenW
  rw [List.getElem?_map, h]
  rfl
theorem then_ok {ws us xs : List Int} {v w : List (Int × List Int)} (hv : WayOk ws us v) (hw : WayOk us xs w) : WayOk ws xs (thenW v w) := by
  refine ⟨by rw [then_len, hv.1], fun i p x h1 h2 => ?_⟩
  have hi : i < v.length := by rw [hv.1]; exact (List.getElem?_eq_some_iff.mp h2).1
  have g : v[i]? = some v[i] := List.getElem?_eq_getElem hi
  rw [then_get g] at h1
  cases h1
  exact step_ok hw (hv.2 i _ x g h2)
theorem pick_map {f : Int → Int} {r : List Int} {y : Int} (h0 : 0 ≤ y) (h1 : y < (r.length : Int)) : pick (r.map f) y = f (pick r y) := by
  have a := pick_in h0 h1
  have b : (r.map f)[y.toNat]? = some (pick (r.map f) y) := pick_in h0 (by rw [List.length_map]; exact h1)
  rw [List.getElem?_map, a] at b
  exact (Option.some.inj b).symm
theorem step_step {us xs ys : List Int} {w z : List (Int × List Int)} {x : Int} {p : Int × List Int} (hw : WayOk us xs w) (hz : WayOk xs ys z) (hp : FillOk x us p) : stepW z (stepW w p) = stepW (thenW w z) p := by
  obtain ⟨q, hq, fq⟩ := way_at hw hp
  obtain ⟨r, hr, fr⟩ := way_at hz fq
  rw [step_some hq, step_some (w := thenW w z) (then_get hq), step_some (w := z) (p := (q.1, q.2.map (pick p.2))) hr, step_some hr]
  refine Prod.ext rfl ?_
  show r.2.map (pick (q.2.map (pick p.2))) = (r.2.map (pick q.2)).map (pick p.2)
  rw [List.map_map]
  refine List.map_congr_left fun y hy => ?_
  obtain ⟨y0, y1⟩ := fr.2.2.2 y hy
  exact pick_map y0 y1
theorem then_assoc {ws us xs ys : List Int} {v w z : List (Int × List Int)} (hv : WayOk ws us v) (hw : WayOk us xs w) (hz : WayOk xs ys z) : thenW (thenW v w) z = thenW v (thenW w z) := by
  unfold thenW
  rw [List.map_map]
  refine List.map_congr_left fun p hp => ?_
  obtain ⟨i, hi, rfl⟩ := List.getElem_of_mem hp
  have hi2 : i < ws.length := by rw [← hv.1]; exact hi
  exact step_step hw hz (hv.2 i _ _ (List.getElem?_eq_getElem hi) (List.getElem?_eq_getElem hi2))
theorem pick_iota {x y : Int} (h0 : 0 ≤ y) (h1 : y < x) : pick (iota x) y = y := by
  have a : (iota x)[y.toNat]? = some (pick (iota x) y) := pick_in h0 (by rw [iota_len]; omega)
  rw [iota_get (by omega)] at a
  have := Option.some.inj a
  omega
theorem map_pick_iota (r : List Int) : (iota ((r.length : Nat) : Int)).map (pick r) = r := by
  refine List.ext_getElem? fun i => ?_
  by_cases hi : i < r.length
  · rw [List.getElem?_map, iota_get (by omega)]
    have := pick_in (r := r) (y := (i : Int)) (by omega) (by omega)
    rw [Int.toNat_natCast] at this
    rw [this]
    rfl
  · rw [List.getElem?_eq_none (by rw [List.length_map, iota_len]; omega), List.getElem?_eq_none (by omega)]
theorem idle_then {ws us : List Int} {v : List (Int × List Int)} (hv : WayOk ws us v) : thenW (idleW ws) v = v := by
  refine List.ext_getElem? fun i => ?_
  by_cases hi : i < ws.length
  · have g : ws[i]? = some ws[i] := List.getElem?_eq_getElem hi
    have hiv : i < v.length := by rw [hv.1]; exact hi
    have gv : v[i]? = some v[i] := List.getElem?_eq_getElem hiv
    rw [then_get (idle_get g), step_some (w := v) (p := ((i : Int), iota ws[i])) (q := v[i]) (by show v[((i : Int)).toNat]? = _; rw [Int.toNat_natCast]; exact gv), gv]
    congr 1
    refine Prod.ext rfl ?_
    show v[i].2.map (pick (iota ws[i])) = v[i].2
    refine (List.map_congr_left fun y hy => ?_).trans (List.map_id _)
    obtain ⟨y0, y1⟩ := (hv.2 i _ _ gv g).2.2.2 y hy
    exact pick_iota y0 y1
  · rw [List.getElem?_eq_none (by rw [then_len, idle_len]; omega), List.getElem?_eq_none (by rw [hv.1]; omega)]
theorem then_idle {ws us : List Int} {v : List (Int × List Int)} (hv : WayOk ws us v) : thenW v (idleW us) = v := by
  unfold thenW
  refine (List.map_congr_left fun p hp => ?_).trans (List.map_id _)
  obtain ⟨i, hi, rfl⟩ := List.getElem_of_mem hp
  have hi2 : i < ws.length := by rw [← hv.1]; exact hi
  obtain ⟨h0, h1, h2, h3⟩ := hv.2 i _ _ (List.getElem?_eq_getElem hi) (List.getElem?_eq_getElem hi2)
  rw [step_some (idle_get h2)]
  refine Prod.ext ?_ (map_pick_iota _)
  show ((v[i].1.toNat : Nat) : Int) = v[i].1
  omega
/-! ### promises of the ways -/
def spAfter : Sp := fun vs H Q _ => ∃ (a b : Addr) (ws us xs : List Int) (v w : List (Int × List Int)), vs = [.ref a, .ref b] ∧ Way H a v ∧ Way H b w ∧ WayOk ws us v ∧ WayOk us xs w ∧ ws.length ≤ 120 ∧ us.length ≤ 120 ∧ (∀ x ∈ us, 0 ≤ x ∧ x ≤ 12) ∧ (∀ x ∈ xs, 0 ≤ x ∧ x ≤ 12) ∧ ∀ c H', Same H H' → Way H' c (thenW v w) → Q (.ref c) H'
/-! ### crates and ways from each to the next -/
def Chn (H : Hp) (ts : List Addr) (cs : List (List Int)) (bs : List Addr) (vs : List (List (Int × List Int))) : Prop :=
  ts.length = cs.length ∧ bs.length = vs.length ∧ cs.length = vs.length + 1 ∧ (∀ (j : Nat) (t : Addr) (c : List Int), ts[j]? = some t → cs[j]? = some c → H t = some (.tup (c.map V.int)) ∧ c.length ≤ 60 ∧ ∀ x ∈ c, 0 ≤ x ∧ x ≤ 12) ∧
  ∀ (j : Nat) (b : Addr) (v : List (Int × List Int)) (c d : List Int), bs[j]? = some b → vs[j]? = some v → cs[j]? = some c → cs[j + 1]? = some d → Way H b v ∧ WayOk c d v
theorem Chn.keep {H H' : Hp} {ts : List Addr} {cs : List (List Int)} {bs : List Addr} {vs : List (List (Int × List Int))} (h : Chn H ts cs bs vs) (k : KeepT H H') : Chn H' ts cs bs vs := by
  obtain ⟨h1, h2, h3, h4, h5⟩ := h
  refine ⟨h1, h2, h3, fun j t c a b => ?_, fun j b v c d p q r s => ?_⟩
  · obtain ⟨e, f⟩ := h4 j t c a b
    exact ⟨k _ _ e, f⟩
  · obtain ⟨e, f⟩ := h5 j b v c d p q r s
    exact ⟨e.keep k, f⟩
theorem get_app {α : Type} {xs : List α} {x y : α} {j : Nat} (h : (xs ++ [x])[j]? = some y) : (j < xs.length ∧ xs[j]? = some y) ∨ (j = xs.length ∧ y = x) := by
  by_cases hj : j < xs.length
  · rw [List.getElem?_append_left hj] at h
    exact .inl ⟨hj, h⟩
  · have hlt := (List.getElem?_eq_some_iff.mp h).1
    rw [List.length_append, List.length_singleton] at hlt
    have e : j = xs.length := by omega
    subst e
    rw [List.getElem?_append_right (Nat.le_refl _), Nat.sub_self] at h
    exact .inr ⟨rfl, (Option.some.inj h).symm⟩
theorem Chn.push {H : Hp} {ts : List Addr} {cs : List (List Int)} {bs : List Addr} {vs : List (List (Int × List Int))} {t b : Addr} {c d : List Int} {v : List (Int × List Int)} (h : Chn H ts cs bs vs) (hc : cs[vs.length]? = some c) (ht : H t = some (.tup (d.map V.int))) (hl : d.length ≤ 60) (hd : ∀ x ∈ d, 0 ≤ x ∧ x ≤ 12) (hv : Way H b v) (ok : WayOk c d v) : Chn H (ts ++ [t]) (cs ++ [d]) (bs ++ [b]) (vs ++ [v]) := by
  obtain ⟨h1, h2, h3, h4, h5⟩ := h
  refine ⟨by rw [List.length_append, List.length_append, h1]; rfl, by rw [List.length_append, List.length_append, h2]; rfl, by rw [List.length_append, List.length_append, h3]; rfl, fun j t' c' p q => ?_, fun j b' v' c' d' p q r s => ?_⟩
  · rcases get_app p with ⟨p0, p1⟩ | ⟨rfl, rfl⟩
    · rcases get_app q with ⟨_, q1⟩ | ⟨q0, _⟩
      · exact h4 j t' c' p1 q1
      · omega
    · rcases get_app q with ⟨q0, _⟩ | ⟨_, rfl⟩
      · omega
      · exact ⟨ht, hl, hd⟩
  · rcases get_app p with ⟨p0, p1⟩ | ⟨p0, rfl⟩
    · rcases get_app q with ⟨_, q1⟩ | ⟨q0, _⟩
      · rcases get_app r with ⟨_, r1⟩ | ⟨r0, _⟩
        · rcases get_app s with ⟨_, s1⟩ | ⟨s0, _⟩
          · exact h5 j b' v' c' d' p1 q1 r1 s1
          · omega
        · omega
      · omega
    · rcases get_app q with ⟨q0, _⟩ | ⟨_, rfl⟩
      · omega
      · rcases get_app s with ⟨s0, _⟩ | ⟨s0, rfl⟩
        · omega
        · rcases get_app r with ⟨_, r1⟩ | ⟨r0, _⟩
          · have e : j = vs.length := by omega
            rw [e, hc] at r1
            cases r1
            exact ⟨hv, ok⟩
          · omega
theorem at_last {ts : List Addr} {j : Nat} {t : Addr} (hj : ts.length = j + 1) (h : ts[j]? = some t) : atI (ts.map V.ref) (-1) = some (.ref t) := by
  have e : ts.map V.ref = (ts.take j).map V.ref ++ [.ref t] := by
    rw [show ([V.ref t] : List V) = [t].map V.ref from rfl, ← List.map_append]
    congr 1
    have := List.take_add_one (l := ts) (i := j)
    rw [h, ← hj, List.take_length] at this
    exact this
  rw [e]
  exact atI_last _ _
end Tm

namespace Tm
open PySem PySem.Spec PyProof.Rows L2 HT
/-! ### t[::-1], t a tuple: a new one -/
theorem adjust_rev (n : Nat) : Builtin.Slice.sliceAdjust none none (-1) (n : Int) = ((n : Int) - 1, -1) := by
  unfold Builtin.Slice.sliceAdjust
  rfl
theorem places_rev (n : Nat) : Builtin.Slice.slicePlaces ((n : Int) - 1) (-1) (-1) = n := by
  unfold Builtin.Slice.slicePlaces
  have h1 : ¬ ((-1 : Int) > 0) := by omega
  simp only [h1, if_false, show (- -1 : Int) = 1 by decide, Int.ediv_one]
  split <;> omega
theorem fm_congr {α β : Type} {f g : α → Option β} : ∀ {l : List α}, (∀ x ∈ l, f x = g x) → l.filterMap f = l.filterMap g
  | [], _ => rfl
  | x :: l, h => by
    rw [List.filterMap_cons, List.filterMap_cons, h x List.mem_cons_self, fm_congr fun y hy => h y (List.mem_cons_of_mem _ hy)]
theorem pick_rev (xs : Array Value) : ((List.range xs.size).filterMap fun (m : Nat) => xs[((xs.size : Int) - 1 + (m : Int) * -1).toNat]?).toArray = xs.toList.reverse.toArray := by
  congr 1
  have h := PySem.W.krv_all xs
  rw [← h, ← List.filterMap_reverse, ← PySem.W.krv_range, List.filterMap_map]
  refine fm_congr fun m hm => ?_
  have := List.mem_range.mp hm
  show xs[((xs.size : Int) - 1 + (m : Int) * -1).toNat]? = xs[xs.size - 1 - m]?
  rw [show ((xs.size : Int) - 1 + (m : Int) * -1).toNat = xs.size - 1 - m by omega]
section
variable {prog : Program} {w : World} {A : Around} {E : Value → Shared → Prop} {s : Shared}
theorem sliceApplied_rev {sl : Addr} {vl vu vs : Value} {n : Nat} {Q : Int × Int × Nat → Shared → Prop} (hs : s.heap.IsSliceOf sl vl vu vs) (pl : IsPart vl none) (pu : IsPart vu none) (ps : IsPart vs (some (-1)))
    (h : Q ((n : Int) - 1, -1, n) s) : wpAny (model prog w) A (Builtin.Slice.sliceApplied (.ref sl) (pure (n : Int))) Q E s := by
  obtain ⟨os, hos, hcs, hds⟩ := id hs
  unfold Builtin.Slice.sliceApplied Builtin.Slice.sliceFields
  refine wpAny_bind (wpAny_bind (wpAny_field hos hds (x := vl) rfl (wpAny_bind (wpAny_field hos hds (x := vu) rfl (wpAny_bind (wpAny_field hos hds (x := vs) rfl (wpAny_pure ?_)))))))
  refine wpAny_bind (slicePart_ ps ?_)
  show wpAny _ _ (if ((-1 : Int) == 0) = true then _ else _) _ _ s
  rw [if_neg (by decide)]
  refine wpAny_bind (slicePart_ pl (wpAny_bind (slicePart_ pu (wpAny_bind (wpAny_pure ?_)))))
  show wpAny _ _ (match Builtin.Slice.sliceAdjust none none (-1) (n : Int) with | (lo, hi) => pure (lo, (-1 : Int), Builtin.Slice.slicePlaces lo hi (-1))) _ _ s
  rw [adjust_rev n]
  show wpAny _ _ (pure ((n : Int) - 1, (-1 : Int), Builtin.Slice.slicePlaces ((n : Int) - 1) (-1) (-1))) _ _ s
  rw [places_rev]
  exact wpAny_pure h
theorem getItem_tuple_rev {t sl : Addr} {items : Array Value} {vl vu vs : Value} {Q : Value → Shared → Prop} (ht : IsTup s.heap t items) (hs : s.heap.IsSliceOf sl vl vu vs) (pl : IsPart vl none) (pu : IsPart vu none) (ps : IsPart vs (some (-1)))
    (h : Q (.ref s.heap.objs.size) { s with heap := s.heap.push { cls := .type "tuple", data := .seq items.toList.reverse.toArray } })
    (hsz : items.size ≤ sizeLine) : wpAny (model prog w) A (getItem (.ref t) (.ref sl)) Q E s := by
  have htake : sizeOk (.seq items.toList.reverse.toArray) := by
    show items.toList.reverse.toArray.size ≤ sizeLine
    rw [List.size_toArray, List.length_reverse, Array.length_toList]
    exact hsz
  obtain ⟨os, hos, hcs, hds⟩ := id hs
  have hTs : s.TypeIs (.ref sl) "slice" := ⟨os, hos, hcs⟩
  unfold getItem
  try with_reducible refine wpAny_holding ?_
  first | refine wpAny_bind (wpAny_pure ?_) | skip
  refine wpAny_bind (wpAny_sequenceKey ht.typeIs (by decide) ?_)
  refine wpAny_bind (wpAny_callSpecial?_slot (name := Str.ofString "__getitem__") ht.typeIs PyProof.Rows.slot_tuple_getitem
    (wpAny_call_entry PyProof.Rows.slot_tuple_getitem ht.typeIs entry_tuple_getitem ?_ (args_tuple_getitem _ _)))
  show wpAny _ _ (Builtin.Tuple.tupleItemsOf (.ref t) >>= _) _ _ s
  refine wpAny_bind (tupleItemsOf_ ht ?_)
  refine wpAny_bind (wpAny_typeOf hTs ?_)
  rw [if_pos (by decide)]
  refine wpAny_bind (sliceApplied_rev hs pl pu ps ?_)
  have hno : ¬ ((((items.size : Int) - 1) == 0 && (-1 : Int) == 1 && items.size == items.size) = true) := by
    rw [show ((-1 : Int) == 1) = false by decide, Bool.and_false, Bool.false_and]
    exact Bool.false_ne_true
  show wpAny _ _ (if (((items.size : Int) - 1) == 0 && (-1 : Int) == 1 && items.size == items.size) = true then _ else _) _ _ s
  rw [if_neg hno, pick_rev]
  first
    | exact wpAny_bind (m := Builtin.Tuple.tupleExact _) (wpAny_newObj_type (wpAny_pure ⟨_, rfl, wpAny_pure h⟩) htake)
    | exact wpAny_bind (m := Builtin.Tuple.tupleExact _) (wpAny_newObj_type (wpAny_bind (wpAny_pure (wpAny_pure ⟨_, rfl, wpAny_pure h⟩))) htake)
    | exact wpAny_bind (wpAny_bind (m := Builtin.Tuple.tupleExact _) (wpAny_newObj_type (wpAny_pure (wpAny_pure ⟨_, rfl, wpAny_pure h⟩)) htake))
    | exact wpAny_bind (wpAny_bind (m := Builtin.Tuple.tupleExact _) (wpAny_newObj_type (wpAny_pure ⟨_, rfl, wpAny_pure h⟩) htake))
end
section
variable {X : Cx}
def tRevT (K : PySem.W.Frag) (te : TE) : TE := fun σ H Q => te σ H fun x H1 => ∃ a xs, x = .ref a ∧ SqT K H1 a xs ∧ ∀ p, H1 p = none → Q (.ref p) (upd H1 p (.tup xs.reverse))
theorem pe_revT {e : Expr} {te : TE} {k : Nat} {p1 p2 p3 pos : Pos} (he : PE X e te) : PE X (.Subscript e (.Slice none none (some (.UnaryOp .USub (.Constant (.int 1) k p1) p2)) p3) pos) (tRevT X.K te) := by
  refine ⟨fun pins s σ H Q I h => ?_⟩
  refine Subscript_ (thn (he.run pins s σ H _ I h) fun v s1 ⟨x, H1, I1, r1, q1⟩ => ?_)
  obtain ⟨a, xs, ex, hx, q⟩ := q1
  subst ex
  cases r1
  have hst : PO X (some (.UnaryOp .USub (.Constant (.int 1) k p1) p2)) (tPart (tUn (rU fun i => .int (-i)) (tC (.int 1)))) := po_some (pe_un un_neg pe_int)
  refine wpAny_Slice (thn (po_none.run pins s1 σ H1 (fun o H2 => o = none ∧ H2 = H1) I1 ⟨rfl, rfl⟩) fun vl s2 ⟨l, H2, I2, pl, el, e2⟩ => ?_)
  subst el e2
  refine thn (po_none.run pins s2 σ H2 (fun o H3 => o = none ∧ H3 = H2) I2 ⟨rfl, rfl⟩) fun vu s3 ⟨u, H3, I3, pu, eu, e3⟩ => ?_
  subst eu e3
  refine thn (hst.run pins s3 σ H3 (fun o H4 => o = some (-1) ∧ H4 = H3) I3 ⟨1, rfl, -1, rfl, rfl, rfl⟩) fun vs s4 ⟨o, H4, I4, ps, eo, e4⟩ => ?_
  subst eo e4
  have I5 : Inv X pins σ H4 { s4 with heap := s4.heap.push { cls := .type "slice", data := .fields #[vl, vu, vs] } } := I4.kept (t' := s4.toks) fun b ob q => Heap.get?_push_of_some _ q
  obtain ⟨its, r, ht, hz⟩ := I5.tuple hx
  have hlen := r.length
  show wpAny (model X.prog X.w) X.A (subscriptTail e (.Slice none none (some (.UnaryOp .USub (.Constant (.int 1) k p1) p2)) p3) (.ref a) (.ref s4.heap.objs.size)) (EP X pins σ Q) X.xe { s4 with heap := s4.heap.push { cls := .type "slice", data := .fields #[vl, vu, vs] } }
  refine tail_any (ops := [.ref a, .ref s4.heap.objs.size]) ht.typeIs (PyProof.Rows.slot_tuple_getitem.lookup) ?_ (by with_unfolding_all rfl)
  refine getItem_tuple_rev ht (Heap.IsSliceOf.new _ vl vu vs) pl pu ps ?_ (by rw [List.size_toArray]; omega)
  refine ⟨.ref _, _, I5.laid (t' := s4.toks) (o := .tup xs.reverse) (fun b ob q => Heap.get?_push_of_some _ q) (Nat.le_refl _) ?_, rfl, q _ (I5.hok.fresh (Nat.le_refl _))⟩
  exact ⟨by rw [List.length_reverse]; exact hz, _, r.reverse, IsTup.new _ _⟩
end
/-! ### t[:i] -/
theorem r_take {K : PySem.W.Frag} {H : Hp} {a : Addr} {xs : List V} {i : Int} {Q : V → Hp → Prop} (ea : H a = some (.tup xs)) (i0 : 0 ≤ i) (i1 : i ≤ (xs.length : Int)) (q : ∀ c H', Same H H' → H' c = some (.tup (xs.take i.toNat)) → Q (.ref c) H') : rSlA K (.ref a) none (some i) H Q := by
  have e : HT.sIx xs.length xs.length (some i) = i.toNat := by
    show (if i < 0 then (i + (xs.length : Int)).toNat else min i.toNat xs.length) = i.toNat
    rw [if_neg (by omega)]
    omega
  have e2 : cutV xs none (some i) = xs.take i.toNat := by
    unfold cutV
    rw [e]
    rfl
  refine ⟨a, xs, rfl, SqT.of ea, fun h => q a H same_refl ?_, fun _ p hp => q p _ (same_upd hp) ?_⟩
  · rw [e] at h
    rw [h.2, List.take_length]
    exact ea
  · rw [upd_same, e2]
/-! ### divisors below 2 ^ 64 -/
theorem divp_small {i j : Int} (hj : 0 < j) (h : j < 2 ^ 64) : CDivP i j := by
  refine ⟨hj, ?_⟩
  show (decide ((if j == 0 then 0 else j.natAbs.log2 / 30 + 1) > 300) && decide ((if i == 0 then 0 else i.natAbs.log2 / 30 + 1) > (if j == 0 then 0 else j.natAbs.log2 / 30 + 1) + 150)) = false
  rw [if_neg (show ¬ (j == 0) = true by simpa using (show j ≠ 0 by omega))]
  have l : j.natAbs.log2 < 64 := PySem.Flt.log2_lt_of (by decide) (by omega)
  rw [decide_eq_false (by omega), Bool.false_and]
/-! ### the last pair of a way -/
theorem wnum_take {us ws : List Int} {wy : List (Int × List Int)} {i : Nat} {x : Int} {p : Int × List Int} (hx : ws[i]? = some x) (hp : wy[i]? = some p) : wnum us (ws.take (i + 1)) (wy.take (i + 1)) = wnum us (ws.take i) (wy.take i) * cnt x us + fnum x us p := by
  have h1 := (List.getElem?_eq_some_iff.mp hx).1
  have h2 := (List.getElem?_eq_some_iff.mp hp).1
  rw [List.take_add_one, List.take_add_one, hx, hp]
  show wnum us (ws.take i ++ [x]) (wy.take i ++ [p]) = _
  rw [wnum_app (by rw [List.length_take, List.length_take]; omega)]
  show wnum us (ws.take i) (wy.take i) * (cnt x us * 1) + (fnum x us p * 1 + 0) = _
  rw [Int.mul_one, Int.mul_one, Int.add_zero]
theorem many_pos {us : List Int} : ∀ {ws : List Int}, (∀ x ∈ ws, 0 ≤ x) → 0 < manyW us ws → ∀ x ∈ ws, 0 < cnt x us
  | [], _, _, x, hx => by cases hx
  | y :: ws, hw, h, x, hx => by
    have y0 := cnt_nonneg (hw y List.mem_cons_self) us
    have m0 := many_nn (us := us) (ws := ws) fun z hz => hw z (List.mem_cons_of_mem _ hz)
    have h' : 0 < cnt y us * manyW us ws := h
    have hy : cnt y us ≠ 0 := fun e => by rw [e, Int.zero_mul] at h'; omega
    have hm : manyW us ws ≠ 0 := fun e => by rw [e, Int.mul_zero] at h'; omega
    rcases List.mem_cons.mp hx with rfl | hx
    · omega
    · exact many_pos (fun z hz => hw z (List.mem_cons_of_mem _ hz)) (by omega) x hx
/-! ### what is asked of anything -/
def pairT : PyData → Bool
  | .tuple ds => decide (ds.length = 2)
  | _ => false
def crateD : PyData → Bool
  | .tuple ds => decide (ds.length ≤ 60) && ds.all (wellD 13)
  | _ => false
def fitsD (us : List Int) : PyData → Bool
  | .tuple [.int t, .tuple fs] => decide (0 ≤ t) && decide (t < (us.length : Int)) && decide (us[t.toNat]? = some ((fs.length : Nat) : Int))
  | _ => false
theorem well_whole {b : Int} {d : PyData} (h : wholeD d = false) : wellD b d = false := by
  cases d <;> first | rfl | cases h
theorem fits_pair {us : List Int} {d : PyData} (h : pairT d = false) : fitsD us d = false := by
  unfold fitsD
  split
  · cases h
  · rfl
theorem fits_whole {us : List Int} {d e : PyData} (h : wellD (us.length : Int) d = false) : fitsD us (.tuple [d, e]) = false := by
  cases d <;> cases e <;> try rfl
  rename_i t fs
  have h' : (decide (0 ≤ t) && decide (t < (us.length : Int))) = false := h
  show (decide (0 ≤ t) && decide (t < (us.length : Int)) && decide (us[t.toNat]? = some ((fs.length : Nat) : Int))) = false
  rw [h', Bool.false_and]
theorem fits_snd {us : List Int} {d e : PyData} (h : tupD e = false) : fitsD us (.tuple [d, e]) = false := by
  cases d <;> cases e <;> first | rfl | cases h
theorem pair_fits {us : List Int} {x : Int} {d : PyData} (h : fitsD us d = false) : pairD us x d = false := by
  unfold pairD
  split
  · rename_i t fs
    have h' : (decide (0 ≤ t) && decide (t < (us.length : Int)) && decide (us[t.toNat]? = some ((fs.length : Nat) : Int))) = false := h
    rw [h', Bool.false_and]
  · rfl
theorem fits_shape {us : List Int} {d : PyData} (h : fitsD us d = true) : ∃ t fs, d = .tuple [.int t, .tuple fs] ∧ 0 ≤ t ∧ t < (us.length : Int) ∧ us[t.toNat]? = some ((fs.length : Nat) : Int) ∧ ∀ x, pairD us x d = fs.all (wellD x) := by
  unfold fitsD at h
  split at h
  · rename_i t fs
    have h' := h
    rw [Bool.and_eq_true, Bool.and_eq_true] at h
    refine ⟨t, fs, rfl, of_decide_eq_true h.1.1, of_decide_eq_true h.1.2, of_decide_eq_true h.2, fun x => ?_⟩
    show (decide (0 ≤ t) && decide (t < (us.length : Int)) && decide (us[t.toNat]? = some ((fs.length : Nat) : Int)) && fs.all (wellD x)) = _
    rw [h', Bool.true_and]
  · cases h
theorem crateD_ints {ws : List Int} (hl : ws.length ≤ 60) (hw : ∀ x ∈ ws, 0 ≤ x ∧ x ≤ 12) : crateD (.tuple (ws.map PyData.int)) = true := by
  show (decide ((ws.map PyData.int).length ≤ 60) && (ws.map PyData.int).all (wellD 13)) = true
  rw [List.length_map, decide_eq_true hl, Bool.true_and]
  exact wells_ints fun y hy => ⟨(hw y hy).1, by have := (hw y hy).2; omega⟩
theorem dq_ints {N : Addr → Prop} {H : Hp} {t : Addr} {ws : List Int} (e : H t = some (.tup (ws.map V.int))) : Dq N H (.ref t) (.tuple (ws.map PyData.int)) := .tup e (DqAll.ints ws)
theorem isWayD_table {ws us : List Int} {ds : List PyData} (h : ds.length = ws.length) : isWayD ws us (.tuple ds) = ((ws.zip ds).map fun p => pairD us p.1 p.2).all id := by
  cases hb : ((ws.zip ds).map fun p => pairD us p.1 p.2).all id with
  | true =>
    refine pairs_yes h fun i x d h1 h2 => ?_
    rw [List.all_map, List.all_eq_true] at hb
    exact hb (x, d) (List.mem_of_getElem? (i := i) (by rw [List.getElem?_zip_eq_some]; exact ⟨h1, h2⟩))
  | false =>
    rw [List.all_map, List.all_eq_false] at hb
    obtain ⟨⟨x, d⟩, hm, hn⟩ := hb
    obtain ⟨i, hi⟩ := List.getElem?_of_mem hm
    rw [List.getElem?_zip_eq_some] at hi
    exact pairs_no hi.1 hi.2 (Bool.eq_false_iff.mpr hn)
/-! ### a comprehension over zip of two tuples -/
theorem lc_zipT {K : PySem.W.Frag} {a b : Addr} {xs ys : List V} {g : TG} {tt : TT} {te : TE} {vs : List Nat} {σ : L2.St} {H1 : Hp} {D : Addr} {Qd : Hp → Prop} (hl : xs.length = ys.length) (Pv : Nat → Hp → Prop) (h0 : Pv 0 (upd H1 D (.lst []))) (hq : ∀ i H, Pv i H → SqT K H a xs ∧ SqT K H b ys)
    (hs : ∀ i x y T H, xs[i]? = some x → ys[i]? = some y → Pv i H → H T = none → g (.ref T) (wipe σ vs) (upd H T (.tup [x, y])) fun σ2 H2 => wipe σ2 vs = wipe σ vs ∧ tt σ2 H2 fun b H3 =>
      if b = true then te σ2 H3 fun y H4 => ∃ acc, H4 D = some (.lst acc) ∧ acc.length < sizeLine ∧ Pv (i + 1) (upd H4 D (.lst (acc ++ [y]))) else Pv (i + 1) H3) (hd : ∀ H, Pv xs.length H → Qd H) :
    ∃ W : Nat → Nat → Hp → Prop, (∃ m, W 0 m (upd H1 D (.lst []))) ∧ ∀ i m H, W i m H →
      ((RZ.ItzT K a b).stop i H ∧ Qd H) ∨ ((RZ.ItzT K a b).go i H ∧ ∃ Nx : Hp → Prop, (∀ H', Nx H' → ∃ m', m' < m ∧ W (i + 1) m' H') ∧ ∀ x H', (RZ.ItzT K a b).yld i H x H' → g x (wipe σ vs) H' fun σ2 H2 => wipe σ2 vs = wipe σ vs ∧ tt σ2 H2 fun b H3 =>
        if b = true then te σ2 H3 fun y H4 => ∃ acc, H4 D = some (.lst acc) ∧ acc.length < sizeLine ∧ Nx (upd H4 D (.lst (acc ++ [y]))) else Nx H3) := by
  refine ⟨fun i m H => m = xs.length - i ∧ i ≤ xs.length ∧ Pv i H, ⟨xs.length, by simp, Nat.zero_le _, h0⟩, ?_⟩
  rintro i m H ⟨rfl, hi, p⟩
  obtain ⟨qx, qy⟩ := hq i H p
  by_cases hlt : i < xs.length
  · have hx : xs[i]? = some xs[i] := List.getElem?_eq_getElem hlt
    have hlt2 : i < ys.length := by omega
    have hy : ys[i]? = some ys[i] := List.getElem?_eq_getElem hlt2
    refine .inr ⟨⟨xs, ys, _, _, qx, qy, hx, hy⟩, Pv (i + 1), fun H' p' => ⟨xs.length - (i + 1), by omega, rfl, hlt, p'⟩, fun v H' y => ?_⟩
    obtain ⟨T, x', y', rfl, hT, rfl, f1, f2⟩ := y
    exact hs i x' y' T H (f1 xs qx) (f2 ys qy) p hT
  · have e : i = xs.length := by omega
    subst e
    exact .inl ⟨⟨xs, ys, qx, qy, Or.inl (Nat.le_refl _)⟩, hd H p⟩
theorem told_sc {p l : Addr} {H : Hp} (S : Sc p l H) : Told (fun c => c = p ∨ c = l) H := by
  obtain ⟨_, ns, a, b, e1, e2, _⟩ := S
  intro c hc h
  rcases hc with rfl | rfl
  · rw [e1] at h
    cases h
  · rw [e2] at h
    cases h
/-! ### things taken by wells -/
def pickV (xs : List V) (ys : List Int) : List V := ys.map fun y => xs.getD y.toNat .non
theorem pickV_len (xs : List V) (ys : List Int) : (pickV xs ys).length = ys.length := List.length_map ..
theorem pickV_get {xs : List V} {y : Int} (h0 : 0 ≤ y) (h1 : y < (xs.length : Int)) : xs[y.toNat]? = some (xs.getD y.toNat .non) := by
  have hl : y.toNat < xs.length := by omega
  rw [List.getD_eq_getElem?_getD, List.getElem?_eq_getElem hl]
  rfl
theorem pickV_at {xs : List V} {y : Int} (h0 : 0 ≤ y) (h1 : y < (xs.length : Int)) : atI xs y = some (xs.getD y.toNat .non) := at_of (j := y.toNat) (by omega) (pickV_get h0 h1)
theorem pickV_mem {xs : List V} {ys : List Int} (h : Below (xs.length : Int) ys) {v : V} (hv : v ∈ pickV xs ys) : v ∈ xs := by
  obtain ⟨y, hy, rfl⟩ := List.mem_map.mp hv
  obtain ⟨h0, h1⟩ := h y hy
  exact List.mem_of_getElem? (pickV_get h0 h1)
theorem pickV_ints {r ys : List Int} (h : Below (r.length : Int) ys) : pickV (r.map V.int) ys = (ys.map (pick r)).map V.int := by
  unfold pickV
  rw [List.map_map]
  refine List.map_congr_left fun y hy => ?_
  obtain ⟨h0, h1⟩ := h y hy
  show (r.map V.int).getD y.toNat .non = V.int (r.getD y.toNat 0)
  have hl : y.toNat < r.length := by omega
  rw [List.getD_eq_getElem?_getD, List.getD_eq_getElem?_getD, List.getElem?_map, List.getElem?_eq_getElem hl]
  rfl
/-- what a way makes of a filling of anything -/
def spTurned : Sp := fun vs H Q _ => ∃ (wv f c : Addr) (s : Int) (xs : List V) (wy : List (Int × List Int)) (p : Int × List Int), vs = [.ref wv, .ref f] ∧ Way H wv wy ∧ H f = some (.tup [.int s, .ref c]) ∧ H c = some (.tup xs) ∧ 0 ≤ s ∧ wy[s.toNat]? = some p ∧ Below (xs.length : Int) p.2 ∧ p.2.length ≤ 900 ∧
  ∀ a b H', Same H H' → H a = none → H' a = some (.tup [.int p.1, .ref b]) → H' b = some (.tup (pickV xs p.2)) → Q (.ref a) H'
theorem dp_bools {K : PySem.W.Frag} {H : Hp} {a : Addr} {x y z : Bool} (e : H a = some (.lst [.bl x, .bl y, .bl z])) : Dp K H (.ref a) (.list [.bool x, .bool y, .bool z]) := .lst (SqL.of e) (.cons (.bl x) (.cons (.bl y) (.cons (.bl z) .nil)))
theorem shaped_bools (x y z : Bool) : SeqAt.shaped (.list [.bool x, .bool y, .bool z]) = true := by
  unfold SeqAt.shaped
  simp [PyData.canLay0, PyData.canLayAll0, PyData.depth, PyData.depthAll]
theorem eqv_bools (x y z : Bool) : PyData.eqv (.list [.bool x, .bool y, .bool z]) (.list [.bool x, .bool y, .bool z]) = true := by
  simp [PyData.eqv, PyData.eqvAll]
/-- the suite of a law's except: e, odd and refused by their slots -/
def tsErr (K : PySem.W.Frag) (C c1 c2 c3 c4 c5 c6 : Addr) (se so sr : Nat) : Addr → Value → Option Addr → TS := fun a cls d =>
  tSeq (tAsg (tCB (rIsXT K C a cls d) (tCons (tVar se) (tCons (tTup (tCons (tC (.ref c1)) (tCons (tC (.ref c2)) (tCons (tC (.ref c3)) (tCons (tC (.ref c4)) (tCons (tC (.ref c5)) (tCons (tC (.ref c6)) tNil))))))) tNil))) (gName so))
    (tAsg (tLst (tCons (tCB (rIsX K C a cls d) (tCons (tVar se) (tCons (tC (.ref C)) tNil))) (tCons (tCB (rIsX K C a cls d) (tCons (tVar se) (tCons (tC (.ty "ValueError")) tNil))) (tCons (tVar so) tNil)))) (gName sr))
/-! ### t[1:] -/
theorem r_tail {K : PySem.W.Frag} {σ : L2.St} {H : Hp} {a : Addr} {xs : List V} {Q : V → Hp → Prop} (ea : H a = some (.tup xs)) (q : ∀ c H', Same H H' → H' c = some (.tup (xs.drop 1)) → Q (.ref c) H') : tNoPart σ H (fun u H3 => rSlA K (.ref a) (some 1) u H3 Q) := by
  have e1 : HT.sIx xs.length 0 (some (1 : Int)) = min 1 xs.length := HT.sIx_nat xs.length 0 1
  have e2 : cutV xs (some 1) none = xs.drop 1 := by
    unfold cutV
    rw [e1, HT.sIx_none]
    cases xs with
    | nil => rfl
    | cons x r =>
      rw [show min 1 (x :: r).length = 1 by simp]
      exact List.take_of_length_le (by simp)
  refine ⟨a, xs, rfl, SqT.of ea, fun h => q a H same_refl ?_, fun _ p hp => q p _ (same_upd hp) ?_⟩
  · rw [e1] at h
    cases xs with
    | nil => exact ea
    | cons x r => simp at h
  · rw [upd_same, e2]
/-! ### lists of ways -/
def Ways (H : Hp) (xs : List V) (wys : List (List (Int × List Int))) : Prop := xs.length = wys.length ∧ ∀ (i : Nat) (x : V) (w : List (Int × List Int)), xs[i]? = some x → wys[i]? = some w → ∃ a, x = .ref a ∧ Way H a w
theorem Ways.keep {H H' : Hp} {xs : List V} {wys : List (List (Int × List Int))} (h : Ways H xs wys) (k : KeepT H H') : Ways H' xs wys := ⟨h.1, fun i x w h1 h2 => by
  obtain ⟨a, e, q⟩ := h.2 i x w h1 h2
  exact ⟨a, e, q.keep k⟩⟩
theorem Ways.push {H : Hp} {xs : List V} {wys : List (List (Int × List Int))} {a : Addr} {w : List (Int × List Int)} (h : Ways H xs wys) (e : Way H a w) : Ways H (xs ++ [.ref a]) (wys ++ [w]) := by
  refine ⟨by rw [List.length_append, List.length_append, h.1]; rfl, fun i x v h1 h2 => ?_⟩
  by_cases hi : i < xs.length
  · rw [List.getElem?_append_left hi] at h1
    rw [List.getElem?_append_left (by rw [← h.1]; exact hi)] at h2
    exact h.2 i x v h1 h2
  · have hlt : i < (xs ++ [V.ref a]).length := (List.getElem?_eq_some_iff.mp h1).1
    rw [List.length_append] at hlt
    have ei : i = xs.length := by
      have : ([V.ref a] : List V).length = 1 := rfl
      omega
    subst ei
    rw [List.getElem?_append_right (Nat.le_refl _), Nat.sub_self] at h1
    rw [h.1, List.getElem?_append_right (Nat.le_refl _), Nat.sub_self] at h2
    cases h1
    cases h2
    exact ⟨a, rfl, e⟩
theorem dq_ways {N : Addr → Prop} {H : Hp} : ∀ {xs : List V} {wys : List (List (Int × List Int))}, Ways H xs wys → DqAll N H xs (wys.map dWay)
  | [], [], _ => .nil
  | [], w :: wys, h => by have := h.1; simp at this
  | x :: xs, [], h => by have := h.1; simp at this
  | x :: xs, w :: wys, h => by
    obtain ⟨a, rfl, q⟩ := h.2 0 x w rfl rfl
    exact .cons (dq_way q) (dq_ways ⟨by have := h.1; simpa using this, fun i y v h1 h2 => h.2 (i + 1) y v h1 h2⟩)
theorem flat_way (wy : List (Int × List Int)) : Flat 4 (dWay wy) := ⟨by
  rw [show PyData.canLay0 (dWay wy) = PyData.canLayAll0 (wy.map dPair) by simp only [dWay, PyData.canLay0]]
  exact canLay_pairs wy, by
  have := depth_pairs wy
  rw [show PyData.depth (dWay wy) = PyData.depthAll (wy.map dPair) + 1 by simp only [dWay, PyData.depth]]
  omega⟩
theorem shaped_ways (wys : List (List (Int × List Int))) : SeqAt.shaped (.list (wys.map dWay)) = true := (flat_lst (n := 4) (flatL_of fun d hd => by
  obtain ⟨w, _, rfl⟩ := List.mem_map.mp hd
  exact flat_way w)).shaped (by decide)
theorem eqv_ways0 : ∀ wys : List (List (Int × List Int)), PyData.eqv (.list (wys.map dWay)) (.list []) = wys.isEmpty
  | [] => by simp [PyData.eqv, PyData.eqvAll]
  | n :: r => by simp [PyData.eqv, PyData.eqvAll]
theorem shaped_nil : SeqAt.shaped (.list []) = true := shaped_ints []
/-! ### a filling of numbers turned -/
theorem turned_fill {us vs : List Int} {w : List (Int × List Int)} {x : Int} {p : Int × List Int} (okW : WayOk us vs w) (fp : FillOk x us p) (hv : ∀ v ∈ vs, 0 ≤ v ∧ v ≤ 12) : ∃ r, w[p.1.toNat]? = some r ∧ Below ((p.2.map V.int).length : Int) r.2 ∧ r.2.length ≤ 900 ∧ stepW w p = (r.1, r.2.map (pick p.2)) ∧ pickV (p.2.map V.int) r.2 = (r.2.map (pick p.2)).map V.int := by
  obtain ⟨r, gr, fr⟩ := way_at okW fp
  refine ⟨r, gr, ?_, ?_, step_some gr, pickV_ints fr.2.2.2⟩
  · rw [List.length_map]
    exact fr.2.2.2
  · have := hv _ (List.mem_of_getElem? fr.2.2.1)
    omega
theorem plain_fill {ws : List Int} {i : Nat} {x : Int} (hw : ∀ x ∈ ws, 0 ≤ x) (g : ws[i]? = some x) : FillOk x ws ((i : Int), iota x) := by
  have := (idle_ok hw).2 i _ x (idle_get g) g
  exact this
theorem eqv_pairL (a b : List (Int × List Int)) : PyData.eqv (.list (a.map dPair)) (.list (b.map dPair)) = decide (a = b) := by
  rw [show PyData.eqv (.list (a.map dPair)) (.list (b.map dPair)) = PyData.eqvAll (a.map dPair) (b.map dPair) by simp only [PyData.eqv]]
  exact eqv_pairs a b
theorem flat_pair (p : Int × List Int) : Flat 3 (dPair p) := flat_tup (n := 2) (flatL_cons (flat_int _) (flatL_cons (flat_tup (n := 1) (flatL_ints _)) flatL_nil))
theorem shaped_pairL (a : List (Int × List Int)) : SeqAt.shaped (.list (a.map dPair)) = true := (flat_lst (n := 3) (flatL_of fun d hd => by
  obtain ⟨w, _, rfl⟩ := List.mem_map.mp hd
  exact flat_pair w)).shaped (by decide)
theorem shaped_pair (p : Int × List Int) : SeqAt.shaped (dPair p) = true := (flat_pair p).shaped (by decide)
theorem then_idle_get {ws us : List Int} {v : List (Int × List Int)} (hv : WayOk ws us v) {i : Nat} {x : Int} (g : ws[i]? = some x) : v[i]? = some (stepW v ((i : Int), iota x)) := by
  have h := then_get (w := v) (idle_get g)
  rw [idle_then hv] at h
  exact h
/-! ### read_off -/
/-- of what is a way -/
def spReadOk : Sp := fun vs H Q _ => ∃ (t1 t2 a : Addr) (ws us : List Int) (xs : List V) (wy : List (Int × List Int)), vs = [.ref t1, .ref t2, .ref a] ∧ H t1 = some (.tup (ws.map V.int)) ∧ H t2 = some (.tup (us.map V.int)) ∧ H a = some (.lst xs) ∧ ws.length ≤ 900 ∧ (∀ u ∈ us, u ≤ 900) ∧ Pairs H xs wy ∧ WayOk ws us wy ∧ ∀ b H', Same H H' → Way H' b wy → Q (.ref b) H'
/-- of any list -/
def spRead (C : Addr) : Sp := fun vs H Q E => ∃ (N : Addr → Prop) (t1 t2 a : Addr) (ws us : List Int) (xs : List V) (ds : List PyData), vs = [.ref t1, .ref t2, .ref a] ∧ H t1 = some (.tup (ws.map V.int)) ∧ H t2 = some (.tup (us.map V.int)) ∧ H a = some (.lst xs) ∧ ws.length ≤ 900 ∧ (∀ u ∈ us, u ≤ 900) ∧ DqAll N H xs ds ∧ (isWayD ws us (.tuple ds) = false → ∀ H', Same H H' → E (.ref C) none H') ∧ (isWayD ws us (.tuple ds) = true → ∀ b H', Same H H' → H' b = some (.tup xs) → Q (.ref b) H')
theorem pickV_comp {xs : List V} {q r : List Int} (hq : Below (xs.length : Int) q) (hr : Below (q.length : Int) r) : pickV (pickV xs q) r = pickV xs (r.map (pick q)) := by
  unfold pickV
  rw [List.map_map]
  refine List.map_congr_left fun y hy => ?_
  obtain ⟨y0, y1⟩ := hr y hy
  have hl : y.toNat < q.length := by omega
  show (q.map fun z => xs.getD z.toNat .non).getD y.toNat .non = xs.getD (q.getD y.toNat 0).toNat .non
  rw [List.getD_eq_getElem?_getD, List.getElem?_map, List.getElem?_eq_getElem hl, List.getD_eq_getElem?_getD (l := q), List.getElem?_eq_getElem hl]
  rfl
theorem eqv_ints0 : ∀ ws : List Int, PyData.eqv (.tuple (ws.map PyData.int)) (.tuple []) = ws.isEmpty
  | [] => by simp [PyData.eqv, PyData.eqvAll]
  | n :: r => by simp [PyData.eqv, PyData.eqvAll]
theorem shaped_crate (ws : List Int) : SeqAt.shaped (.tuple (ws.map PyData.int)) = true := (flat_tup (n := 0) (flatL_ints ws)).shaped (by decide)
theorem dp_crate {K : PySem.W.Frag} {H : Hp} {t : Addr} {ws : List Int} (e : H t = some (.tup (ws.map V.int))) : Dp K H (.ref t) (.tuple (ws.map PyData.int)) := .tup (SqT.of e) (dpAll_int ws)
/-- a filling of anything, as data -/
theorem fill_same {K : PySem.W.Frag} {N : Addr → Prop} {H : Hp} {a b a' b' : Addr} {t : Int} {ys : List V} (ea : H a = some (.tup [.int t, .ref b])) (eb : H b = some (.tup ys)) (ea' : H a' = some (.tup [.int t, .ref b'])) (eb' : H b' = some (.tup ys)) (h : ∀ v ∈ ys, AnyF N 1 H v) :
    ∃ d, Dp K H (.ref a) d ∧ Dp K H (.ref a') d ∧ SeqAt.shaped d = true ∧ PyData.eqv d d = true := by
  obtain ⟨ds, hd, hf⟩ := anyF_all h
  have q : Dq N H (.ref a) (.tuple [.int t, .tuple ds]) := .tup ea (.cons (.int t) (.cons (.tup eb hd) .nil))
  have q' : Dq N H (.ref a') (.tuple [.int t, .tuple ds]) := .tup ea' (.cons (.int t) (.cons (.tup eb' hd) .nil))
  refine ⟨_, q.dp, q'.dp, ?_, q.eqv_refl⟩
  exact (flat_tup (n := 2) (flatL_cons (flat_int t) (flatL_cons (flat_tup (n := 1) hf) flatL_nil))).shaped (by decide)
/-- things drawn into the list D -/
theorem told3 {p l D : Addr} {H : Hp} {xs : List V} (S : Sc p l H) (e : H D = some (.lst xs)) : Told (fun c => c = p ∨ c = l ∨ c = D) H := by
  obtain ⟨_, ns, a, b, e1, e2, _⟩ := S
  intro c hc h
  rcases hc with rfl | rfl | rfl
  · rw [e1] at h
    cases h
  · rw [e2] at h
    cases h
  · rw [e] at h
    cases h
theorem flat_ints (as : List Int) : (as.map V.int).all flatV = true := by
  rw [List.all_map]
  exact List.all_eq_true.mpr fun _ _ => rfl
theorem inV_ints (y : Int) (as : List Int) : inV (.int y) (as.map V.int) = decide (y ∈ as) := by
  unfold inV
  rw [List.any_map]
  by_cases h : y ∈ as
  · rw [decide_eq_true h]
    exact List.any_eq_true.mpr ⟨y, h, by show (y == y) = true; simp⟩
  · rw [decide_eq_false h]
    refine List.any_eq_false.mpr fun z hz => ?_
    show ¬ (z == y) = true
    intro e
    exact h (eq_of_beq e ▸ hz)
/-- things put in for numbers -/
def spExch : Sp := fun vs H Q _ => ∃ (f b D : Addr) (t : Int) (as : List Int) (xs : List V), vs = [.ref f, .ref D] ∧ H f = some (.tup [.int t, .ref b]) ∧ H b = some (.tup (as.map V.int)) ∧ H D = some (.lst xs) ∧ Below (xs.length : Int) as ∧ as.length ≤ 900 ∧ ∀ a c H', Same H H' → H' a = some (.tup [.int t, .ref c]) → H' c = some (.tup (pickV xs as)) → Q (.ref a) H'
/-! ### zip of a tuple and a list -/
theorem sep_apart {z TI TO i1 i2 a b : Addr} (D : ZipApart z TI TO i1 i2 a b) : ZipSep2 z TI TO i1 i2 [i1, a] [i2, b] where
  TIz := D.TIz
  TOz := D.TOz
  TITO := D.TITO
  TIi1 := D.TIi1
  mem1 := by simp
  zf1 := by simp only [List.mem_cons, List.not_mem_nil, or_false, not_or]; exact ⟨D.i1z.symm, D.l1z.symm⟩
  Tf1 := by simp only [List.mem_cons, List.not_mem_nil, or_false, not_or]; exact ⟨D.TOi1, D.l1TO.symm⟩
  TIi2 := D.TIi2
  mem2 := by simp
  zf2 := by simp only [List.mem_cons, List.not_mem_nil, or_false, not_or]; exact ⟨D.i2z.symm, D.l2z.symm⟩
  Tf2 := by simp only [List.mem_cons, List.not_mem_nil, or_false, not_or]; exact ⟨D.TOi2, D.l2TO.symm⟩
  sep1_2 := by simp only [List.mem_cons, List.not_mem_nil, or_false, not_or]; exact ⟨D.i12, D.l2i1.symm⟩
  sep2_1 := by simp only [List.mem_cons, List.not_mem_nil, or_false, not_or]; exact ⟨D.i12.symm, D.l1i2.symm⟩
def ItzTL (K : PySem.W.Frag) (a b : Addr) : It :=
  ⟨fun i H => ∃ (xs ys : List V) (x y : V), SqT K H a xs ∧ SqL K H b ys ∧ xs[i]? = some x ∧ ys[i]? = some y,
    fun i H v H' => ∃ T x y, v = .ref T ∧ H T = none ∧ H' = upd H T (.tup [x, y]) ∧ (∀ xs, SqT K H a xs → xs[i]? = some x) ∧ ∀ ys, SqL K H b ys → ys[i]? = some y,
    fun i H => ∃ xs ys : List V, SqT K H a xs ∧ SqL K H b ys ∧ i ≤ xs.length ∧ i ≤ ys.length ∧ (xs.length = i ∨ ys.length = i)⟩
/-- the five cells of a zip -/
def Five (z TI TO i1 i2 c : Addr) : Prop := c ∈ [z, TI, TO, i1, i2]
theorem five_all {z TI TO i1 i2 : Addr} {R : Addr → Prop} (h1 : R z) (h2 : R TI) (h3 : R TO) (h4 : R i1) (h5 : R i2) : ∀ c ∈ [z, TI, TO, i1, i2], R c := by
  simp only [List.forall_mem_cons]
  exact ⟨h1, h2, h3, h4, h5, fun _ h => absurd h List.not_mem_nil⟩
theorem five_ne {z TI TO i1 i2 c : Addr} (h : c ∉ [z, TI, TO, i1, i2]) : c ≠ z ∧ c ≠ TO ∧ c ≠ i1 ∧ c ≠ i2 := by
  simp only [List.mem_cons, List.not_mem_nil, or_false, not_or] at h
  exact ⟨h.1, h.2.2.1, h.2.2.2.1, h.2.2.2.2⟩
/-- how a zip of a tuple and a list stands ahead of its turn i -/
structure Stands (z TI TO i1 i2 a b : Addr) (i : Nat) (h : Heap) : Prop where
  zip : IsZip h z TI TO .none
  ins : IsPair h TI (.ref i1) (.ref i2)
  outs : ∃ x y, IsPair h TO x y
  one : h.IsTupleIter i1 a i
  two : h.IsListIter i2 b i
theorem Stands.lt {z TI TO i1 i2 a b : Addr} {i : Nat} {h : Heap} (t : Stands z TI TO i1 i2 a b i h) : ∀ c ∈ [z, TI, TO, i1, i2], c < h.objs.size :=
  five_all (Heap.lt_size t.zip) (Heap.lt_size t.ins) (let ⟨_, _, e⟩ := t.outs; Heap.lt_size e) (let ⟨_, e, _⟩ := t.one; Heap.lt_size e) (let ⟨_, e, _⟩ := t.two; Heap.lt_size e)
/-- zip of a tuple and a list: each turn a new pair -/
theorem turn_zipTL {P : Program} {w : World} {K : PySem.W.Frag} {elts : List Expr} {kk : Nat} {tpos : Pos} {a b z TI TO i1 i2 : Addr} (D : ZipApart z TI TO i1 i2 a b) :
    Turn P w K (.Tuple elts kk tpos) (ItzTL K a b) [z, TI, TO, i1, i2] z (Stands z TI TO i1 i2 a b) := by
  refine ⟨List.mem_cons_self, fun i h t => five_all ⟨_, t.zip, nofun⟩ ⟨_, t.ins, nofun⟩ ?_ ?_ ?_, fun i h h' t k => ?_, ?_, ?_, fun A i s Q E t => wpAny_pyIter_zip t.zip⟩
  · obtain ⟨_, _, e⟩ := t.outs
    exact ⟨_, e, nofun⟩
  · obtain ⟨o, e, _, d⟩ := t.one
    exact ⟨o, e, by rw [d]; exact nofun⟩
  · obtain ⟨o, e, _, d⟩ := t.two
    exact ⟨o, e, by rw [d]; exact nofun⟩
  · have kc : ∀ c, c ∈ [z, TI, TO, i1, i2] → ∀ o, h.get? c = some o → h'.get? c = some o := k
    obtain ⟨u, v, e⟩ := t.outs
    exact ⟨kc z (by simp) _ t.zip, kc TI (by simp) _ t.ins, ⟨u, v, kc TO (by simp) _ e⟩, t.one.at (kc i1 (by simp)), t.two.at (kc i2 (by simp))⟩
  · rintro X rfl rfl rfl hc i pins s σ H E I hf t ⟨xs, ys, x, y, hqx, hqy, hx, hy⟩
    obtain ⟨us, rv, p, _⟩ := I.tuple hqx
    obtain ⟨vs, rv', p', _⟩ := I.list hqy
    obtain ⟨u, hu, ru⟩ := rv.get hx
    obtain ⟨v, hv, rv0⟩ := rv'.get hy
    obtain ⟨_, _, hO⟩ := t.outs
    have b1 : i < us.toArray.size := by rw [List.size_toArray]; exact (List.getElem?_eq_some_iff.mp hu).1
    have b2 : i < vs.toArray.size := by rw [List.size_toArray]; exact (List.getElem?_eq_some_iff.mp hv).1
    have nz : s.heap.objs.size ≠ z := Nat.ne_of_gt (Heap.lt_size t.zip)
    refine wpAny_pyNext_zipD2_item (sep_apart D) (Draws.tuple (A := X.A.in1) (I.ok.hd hc) i1 a D.l1i1 us.toArray) (Draws.list (A := X.A.in1) (I.ok.hd hc) i2 b D.l2i2 vs.toArray) t.zip t.ins hO ⟨t.one, p⟩ ⟨t.two, p'.isList⟩ b1 b2 fun u' v' g tk eu ev gz gO g1 g2 gT _ gk => ⟨_, rfl, ?_⟩
    obtain rfl : u = u' := Option.some.inj ((show us.toArray[i]? = some u by simpa using hu).symm.trans eu)
    obtain rfl : v = v' := Option.some.inj ((show vs.toArray[i]? = some v by simpa using hv).symm.trans ev)
    refine wpAny_letOwnedTupleGo_zip (s := { s with heap := g, toks := tk }) gz fun g' gz' sb => ?_
    have at' : ∀ {c o}, c ≠ z → g.get? c = some o → g'.get? c = some o := fun n e => (sb.2 _ n).trans e
    have J := I.turnedNew (t' := tk) (ch := [z, TI, TO, i1, i2]) (h' := g') (T := s.heap.objs.size) (ob := .tup [x, y]) (fun c o n e => at' (five_ne n).1 (gk c o (five_ne n).1 (five_ne n).2.1 (five_ne n).2.2.1 (five_ne n).2.2.2 e)) hf (Nat.le_refl _) ⟨by show 2 ≤ sizeLine; decide, [u, v], .cons ru (.cons rv0 .nil), ⟨_, at' nz gT, rfl, _, rfl⟩⟩
    refine ⟨.ref s.heap.objs.size, _, J, rfl, ⟨_, x, y, rfl, I.hok.fresh (Nat.le_refl _), rfl, fun l hl => (I.tuple_inj hl hqx).symm ▸ hx, fun l hl => (I.list_inj hl hqy).symm ▸ hy⟩, ⟨gz', at' D.TIz (gk _ _ D.TIz D.TITO D.TIi1 D.TIi2 t.ins), ⟨u, v, at' D.TOz gO⟩, g1.1.at fun _ => at' D.i1z, g2.1.at fun _ => at' D.i2z⟩, fun c hm => ?_⟩
    rw [upd_ne (Nat.ne_of_lt (t.lt c hm))]
    exact (hf c hm).1
  · rintro X rfl rfl rfl hc i pins s σ H E I hf t ⟨xs, ys, hqx, hqy, le1, le2, hend⟩
    obtain ⟨us, rv, p, _⟩ := I.tuple hqx
    obtain ⟨vs, rv', p', _⟩ := I.list hqy
    have l1 := rv.length
    have l2 := rv'.length
    obtain ⟨_, _, hO⟩ := t.outs
    refine wpAny_pyNext_zipD2_end (i := i) (sep_apart D) (Draws.tuple (A := X.A.in1) (I.ok.hd hc) i1 a D.l1i1 us.toArray) (Draws.list (A := X.A.in1) (I.ok.hd hc) i2 b D.l2i2 vs.toArray) t.zip t.ins hO ⟨t.one, p⟩ ⟨t.two, p'.isList⟩ (by rw [List.size_toArray]; omega) (by rw [List.size_toArray]; omega) (by rw [List.size_toArray, List.size_toArray]; omega) fun g tk gk => ⟨rfl, ?_⟩
    exact I.turnedL (t' := tk) (ch := [z, TI, TO, i1, i2]) (fun c o n e => gk c o (five_ne n).1 (five_ne n).2.1 (five_ne n).2.2.1 (five_ne n).2.2.2 e) hf
/-- for .. in zip(t, l) -/
def iZipTL (K : PySem.W.Frag) (ta : TA) : TI := fun σ H R => ta σ H fun vs H1 => ∃ a b xs ys, vs = [.ref a, .ref b] ∧ SqT K H1 a xs ∧ SqL K H1 b ys ∧ R (ItzTL K a b) H1
theorem pi_zipTL {X : Cx} {e e2 : Expr} {ta : TA} {p pos tpos : Pos} {elts : List Expr} {kk : Nat} (hg : Gl X "zip") (hm : X.mg "zip" = none) (ha : PA X [e, e2] ta)
    (hs : starEach [e, e2] X.env = (false, eval e X.env) :: starEach [e2] X.env := by rfl) (hpl : (backTo pos (starEach [e2] X.env)).any (·.1) = false := by rfl) :
    PI X (.Tuple elts kk tpos) (.Call (.Name "zip" p) [e, e2] [] pos) (iZipTL X.K ta) := by
  constructor
  intro pins s σ H R I h
  refine Call_ (ld_blt I hg hm PyProof.Rows.boot_zip (PyProof.Rows.callWith_type1 (thn (ha.run pos pins s σ H _ I h) ?_) hs hpl))
  rintro us s1 ⟨vs, H1, I1, r1, a, b, xs, ys, rfl, hqx, hqy, q⟩
  obtain ⟨us, rv, p1, _⟩ := I1.tuple hqx
  obtain ⟨vs, rv', p2, _⟩ := I1.list hqy
  rcases r1 with _ | ⟨ra, _ | ⟨rb, _ | _⟩⟩
  cases ra
  cases rb
  have new : ∀ k, FpOk X pins H1 (s1.heap.objs.size + k) := fun k => I1.fpOk (Nat.le_add_right _ _) (I1.hok.fresh (Nat.le_add_right _ _))
  have la : a < s1.heap.objs.size := let ⟨_, e, _⟩ := p1; Heap.lt_size e
  refine zip_begins2 (begins_tuple a us.toArray) (begins_list b vs.toArray) p1 p2.isList fun g gz gI gO g1 g2 _ gk => wpAny_pyIter_zip gz ?_
  exact ⟨_, _, _, _, H1, rfl, I1.kept (t' := s1.toks) gk, turn_zipTL (PySem.W.ktu_apart s1.heap.objs.size a b la p2.lt), ⟨gz, gI, ⟨_, _, gO⟩, ⟨_, g1, rfl, rfl⟩, ⟨_, g2, rfl, rfl⟩⟩, five_all (new 4) (new 2) (new 3) (new 0) (new 1), q⟩
/-- a loop of n turns, over whatever goes on n times -/
theorem for_turns {J : It} {n : Nat} {g : TG} {tb : TS} {D : Ends} {σ : L2.St} {H : Hp} (Pv : Nat → L2.St → Hp → Prop) (h0 : Pv 0 σ H) (hg : ∀ i σ H, i < n → Pv i σ H → J.go i H) (he : ∀ σ H, Pv n σ H → J.stop n H ∧ D.nx σ H)
    (hs : ∀ i σ H v H', i < n → Pv i σ H → J.yld i H v H' → g v σ H' fun σ2 H2 => tb { D with nx := Pv (i + 1), ct := Pv (i + 1), bk := D.nx } σ2 H2) :
    ∃ W : Nat → Nat → L2.St → Hp → Prop, (∃ m, W 0 m σ H) ∧ ∀ i m σ H, W i m σ H →
      (J.stop i H ∧ D.nx σ H) ∨ (J.go i H ∧ ∃ N : L2.St → Hp → Prop, (∀ σ' H', N σ' H' → ∃ m', m' < m ∧ W (i + 1) m' σ' H') ∧ ∀ v H', J.yld i H v H' → g v σ H' fun σ2 H2 => tb { D with nx := N, ct := N, bk := D.nx } σ2 H2) := by
  refine ⟨fun i m σ H => i + m = n ∧ Pv i σ H, ⟨n, Nat.zero_add n, h0⟩, fun i m σ H ⟨e, p⟩ => ?_⟩
  match m, e with
  | 0, e =>
    obtain rfl : i = n := e
    exact .inl (he σ H p)
  | m + 1, e =>
    have hi : i < n := by omega
    exact .inr ⟨hg i σ H hi p, Pv (i + 1), fun σ' H' p' => ⟨m, Nat.lt_succ_self m, by omega, p'⟩, fun v H' y => hs i σ H v H' hi p y⟩
/-- over zip of a tuple and a list of one length -/
theorem for_zipTL {K : PySem.W.Frag} {a b : Addr} {xs ys : List V} {g : TG} {tb : TS} {D : Ends} {σ : L2.St} {H : Hp} (hl : xs.length = ys.length) (Pv : Nat → L2.St → Hp → Prop) (h0 : Pv 0 σ H) (hq : ∀ i σ H, Pv i σ H → SqT K H a xs ∧ SqL K H b ys)
    (hs : ∀ (i : Nat) (x y : V) (T : Addr) (σ : L2.St) (H : Hp), xs[i]? = some x → ys[i]? = some y → Pv i σ H → H T = none → g (.ref T) σ (upd H T (.tup [x, y])) fun σ2 H2 => tb { D with nx := Pv (i + 1), ct := Pv (i + 1), bk := D.nx } σ2 H2) (hd : ∀ σ H, Pv xs.length σ H → D.nx σ H) :
    ∃ W : Nat → Nat → L2.St → Hp → Prop, (∃ m, W 0 m σ H) ∧ ∀ i m σ H, W i m σ H →
      ((ItzTL K a b).stop i H ∧ D.nx σ H) ∨ ((ItzTL K a b).go i H ∧ ∃ N : L2.St → Hp → Prop, (∀ σ' H', N σ' H' → ∃ m', m' < m ∧ W (i + 1) m' σ' H') ∧ ∀ v H', (ItzTL K a b).yld i H v H' → g v σ H' fun σ2 H2 => tb { D with nx := N, ct := N, bk := D.nx } σ2 H2) :=
  for_turns (J := ItzTL K a b) Pv h0 (fun i σ H hi p => ⟨xs, ys, xs[i], ys[i], (hq i σ H p).1, (hq i σ H p).2, List.getElem?_eq_getElem hi, List.getElem?_eq_getElem (by omega)⟩)
    (fun σ H p => ⟨⟨xs, ys, (hq _ σ H p).1, (hq _ σ H p).2, Nat.le_refl _, by omega, .inl rfl⟩, hd σ H p⟩)
    fun i σ H v H' _ p ⟨T, x, y, ev, hT, eH, f1, f2⟩ => by
      subst ev eH
      exact hs i x y T σ H (f1 xs (hq i σ H p).1) (f2 ys (hq i σ H p).2) p hT
def topS (i : Nat) : Stmt := PySem.Challenge.pw_traymap_k07_fillings_turned.main.body.getD i (.Pass ⟨0, 0, 0, 0⟩)
abbrev sTurned : Stmt := topS 1
abbrev sSource : Stmt := topS 3
abbrev sNext : Stmt := topS 4
abbrev sCrate : Stmt := topS 5
abbrev sWay : Stmt := topS 7
abbrev sTwo : Stmt := topS 8
abbrev sAny : Stmt := topS 6
abbrev sWhole : Stmt := topS 9
abbrev sAlike : Stmt := topS 10
abbrev sLaw : Stmt := topS 11
theorem scTurned : FnScope ["way", "filling", "source", "things", "tray", "wells", "well"] ["way", "filling"] (defScope sTurned) := ⟨rfl, rfl, rfl, by decide +kernel, rfl, by decide +kernel, by decide +kernel⟩
theorem scSource : FnScope ["script", "seed", "cell"] ["script"] (defScope sSource) := ⟨rfl, rfl, rfl, by decide +kernel, rfl, by decide +kernel, by decide +kernel⟩
theorem scNext : FnScope ["source", "many", "cell", "drawn"] ["source", "many"] (defScope sNext) := ⟨rfl, rfl, rfl, by decide +kernel, rfl, by decide +kernel, by decide +kernel⟩
theorem scCrate : FnScope ["source", "size", "most", "k"] ["source"] (defScope sCrate) := ⟨rfl, rfl, rfl, by decide +kernel, rfl, by decide +kernel, by decide +kernel⟩
theorem scWay : FnScope ["source", "one", "other", "way", "wells", "able", "there", "tray", "k"] ["source", "one", "other"] (defScope sWay) := ⟨rfl, rfl, rfl, by decide +kernel, rfl, by decide +kernel, by decide +kernel⟩
theorem scTwo : FnScope ["source", "one", "other", "way"] ["source"] (defScope sTwo) := ⟨rfl, rfl, rfl, by decide +kernel, rfl, by decide +kernel, by decide +kernel⟩
theorem scAny : FnScope ["source", "way"] ["source"] (defScope sAny) := ⟨rfl, rfl, rfl, by decide +kernel, rfl, by decide +kernel, by decide +kernel⟩
theorem scWhole : FnScope ["thing"] ["thing"] (defScope sWhole) := ⟨rfl, rfl, rfl, by decide +kernel, rfl, by decide +kernel, by decide +kernel⟩
theorem scAlike : FnScope ["found", "due", "one", "other"] ["found", "due"] (defScope sAlike) := ⟨rfl, rfl, rfl, by decide +kernel, rfl, by decide +kernel, by decide +kernel⟩
theorem scLaw : FnScope ["script", "source", "one", "other", "way", "turn", "tray", "things", "well", "filling", "due", "found"] ["script"] (defScope sLaw) := ⟨rfl, rfl, rfl, by decide +kernel, rfl, by decide +kernel, by decide +kernel⟩
section
variable {P : Program} {w : World} {K : PySem.W.Frag} {mg : Str → Option Value} {base : Heap}
/-! ### _law_next -/
def spNext : Sp := fun vs H Q _ => ∃ (p l : Addr) (m : Int), vs = [.ref p, .int m] ∧ Sc p l H ∧ 0 < m ∧ m.natAbs.log2 < 9000 ∧ ∀ r H', 0 ≤ r → r < m → Sc p l H' → Kp p l H H' → Q (.int r) H'
theorem ok_next {f : Addr} {fd : FuncData} {k : Nat} (F : Fun K "_law_next" "_law_next" sNext f fd) (mabs : mg "abs" = none) : FnOk P w K mg base CX0 (k + 1) f fd ["source", "many"] spNext := by
  refine F.ok scNext (fun vs H Q E h => ?_) (fun cdv A outer s H vs Q E hr h => ?_)
  · obtain ⟨p, l, m, rfl, _⟩ := h
    rfl
  · obtain ⟨p, l, m, rfl, hS, hm, hw, q⟩ := h
    refine ⟨_, C8.pss_cut (ps_if (PW.pt (pw_and (pt_cmpR op_eq (pe_ix ix_list (pv 0) pe_int (fun _ _ => rfl)) pe_int (nomark _)) (pw_and1 (pt_cmpR (op_neD hr.units) (pe_ix ix_list (pv 0) pe_int (fun _ _ => rfl)) (pe_lst pa_nil) (nomark _)))))
        (pss_cons (ps_set (i := 2) scNext.nd rfl (.inl rfl) (pe_bm PySem.F.plainAttrs_list PySem.F.slot_list_pop PySem.F.type_list_pop mt_popAt (pe_ix ix_list (pv 0) pe_int (fun _ _ => rfl)) (pa_cons pe_int pa_nil)))
        (pss_cons (ps_if (pt_cmpR op_lt (pe_callB call_abs (by rfl) mabs (by decide +kernel) (pa_cons (pv 2) pa_nil)) (pe_op op_pow pe_int pe_int) (nomark _)) (pss_one (ps_ret (pe_op op_mod (pv 2) (pv 1)))) pss_nil)
        (pss_one (ps_asg (pe_callB call_abs (by rfl) mabs (by decide +kernel) (pa_cons (pv 2) pa_nil)) (pg_sub (pv 0) pe_int set_list)))))
        pss_nil)
      (pss_cons (ps_if (pt_cmpR op_gt (pe_ix ix_list (pv 0) pe_int (fun _ _ => rfl)) pe_int (nomark _))
          (pss_cons (ps_set (i := 3) scNext.nd rfl (.inl rfl) (pe_op op_mod (pe_ix ix_list (pv 0) pe_int (fun _ _ => rfl)) (pv 1)))
          (pss_cons (ps_asg (pe_op op_fdivW (pe_ix ix_list (pv 0) pe_int (fun _ _ => rfl)) (pv 1)) (pg_sub (pv 0) pe_int set_list))
          (pss_one (ps_ret (pv 3))))) pss_nil)
      (pss_cons (ps_asg (pe_op op_mod (pe_op op_add (pe_op op_mul (pe_ix ix_list (pv 0) pe_int (fun _ _ => rfl)) (pe_ix ix_list (pv 0) pe_int (fun _ _ => rfl))) pe_int) pe_int) (pg_sub (pv 0) pe_int set_list))
      (pss_one (ps_ret (pe_op op_mod (pe_op op_fdiv (pe_ix ix_list (pv 0) pe_int (fun _ _ => rfl)) pe_int) (pv 1)))))), ?_⟩
    refine ⟨fun σ' H' => ∃ c2 c3, σ' = [some (.ref p), some (.int m), c2, c3] ∧ Sc p l H' ∧ Kp p l H H', ?_, fun σ' H' hM => ?_⟩
    · obtain ⟨npl, ns, a, b, hp, hl, ha, hb, hb2⟩ := hS
      -- source[1] == 0
      refine ⟨.ref p, rfl, p, _, 1, .int a, rfl, rfl, SqL.of hp, atI_nat (j := 1) rfl, rfl, _, rfl, ?_⟩
      by_cases e1 : ¬ a = 0
      · rw [decide_eq_false (show ¬ (V.int a = V.int 0) from fun z => e1 (V.int.inj z))]
        refine iteF (iteF ?_)
        exact ⟨_, _, rfl, ⟨npl, ns, a, b, hp, hl, ha, hb, hb2⟩, Kp.refl H⟩
      · have e1 : a = 0 := Decidable.of_not_not e1
        subst e1
        rw [decide_eq_true (show V.int 0 = V.int 0 from rfl)]
        refine iteT ?_
        -- source[0] != []
        refine ⟨.ref p, rfl, p, _, 0, .ref l, rfl, rfl, SqL.of hp, atI_nat (j := 0) rfl, Nat.zero_le _, fun e he => ?_⟩
        have hp1 : (upd H e (.lst [])) p = some (.lst [.ref l, .int 0, .int b]) := same_upd he _ _ hp
        have hl1 : (upd H e (.lst [])) l = some (.lst (ns.map V.int)) := same_upd he _ _ hl
        refine ⟨.list (ns.map PyData.int), .list [], .lst (SqL.of hl1) (dpAll_int ns), .lst (SqL.of upd_same) .nil, shaped_ints ns, shaped_ints [], _, rfl, ?_⟩
        rw [eqv_nil]
        cases ns with
        | nil =>
          refine iteF ?_
          exact ⟨_, _, rfl, ⟨npl, [], 0, b, hp1, hl1, ha, hb, hb2⟩, (Kp.refl H).upd he⟩
        | cons n r =>
          refine iteT ?_
          -- cell = source[0].pop(0)
          refine ⟨.ref p, rfl, p, _, 0, .ref l, rfl, rfl, SqL.of hp1, atI_nat (j := 0) rfl, .inl ⟨rfl, _, SqL.of hl1⟩, l, _, 0, 0, .int n, rfl, rfl, hl1, by decide, by decide, ?_, rfl, ?_⟩
          · unfold seqIndex?
            simp
          · -- abs(cell) < 10 ** 18
            have hp2 : (upd (upd H e (.lst [])) l (.lst (((n :: r).map V.int).eraseIdx 0))) p = some (.lst [.ref l, .int 0, .int b]) := by
              rw [upd_ne npl]
              exact hp1
            have hl2 : (upd (upd H e (.lst [])) l (.lst (((n :: r).map V.int).eraseIdx 0))) l = some (.lst (r.map V.int)) := upd_same
            have k2 : Kp p l H (upd (upd H e (.lst [])) l (.lst (((n :: r).map V.int).eraseIdx 0))) := ((Kp.refl H).upd he).updl
            refine ⟨.int n, rfl, n, rfl, _, _, rfl, rfl, ⟨by decide, by decide, by decide⟩, _, _, rfl, rfl, _, rfl, ite2 (fun _ => ?_) (fun _ => ?_)⟩
            · refine ⟨.int n, rfl, .int m, rfl, n, m, rfl, rfl, hm, ?_⟩
              exact q _ _ (Int.emod_nonneg _ (by omega)) (Int.emod_lt_of_pos _ hm) ⟨npl, r, 0, b, hp2, hl2, ha, hb, hb2⟩ k2
            · -- source[1] = abs(cell)
              refine ⟨.int n, rfl, n, rfl, .ref p, rfl, p, _, 1, 1, rfl, rfl, hp2, rfl, ?_⟩
              refine ⟨_, _, rfl, ⟨npl, r, if n < 0 then -n else n, b, upd_same, ?_, ?_, hb, hb2⟩, k2.updp⟩
              · rw [upd_ne npl.symm]
                exact hl2
              · split <;> omega
    · -- the rest
      obtain ⟨c2, c3, rfl, ⟨npl, ns, a, b, hp, hl, ha, hb, hb2⟩, k1⟩ := hM
      refine ⟨.ref p, rfl, p, _, 1, .int a, rfl, rfl, SqL.of hp, atI_nat (j := 1) rfl, _, _, rfl, rfl, _, rfl, ite2 (fun e => ?_) (fun e => ?_)⟩
      · -- drawn = source[1] % many
        refine ⟨.ref p, rfl, p, _, 1, .int a, rfl, rfl, SqL.of hp, atI_nat (j := 1) rfl, .int m, rfl, a, m, rfl, rfl, hm, ?_⟩
        -- source[1] = source[1] // many
        refine ⟨.ref p, rfl, p, _, 1, .int a, rfl, rfl, SqL.of hp, atI_nat (j := 1) rfl, .int m, rfl, a, m, rfl, rfl, ⟨hm, hw⟩, .ref p, rfl, p, _, 1, 1, rfl, rfl, hp, rfl, ?_⟩
        refine ⟨_, rfl, ?_⟩
        refine q _ _ (Int.emod_nonneg _ (by omega)) (Int.emod_lt_of_pos _ hm) ⟨npl, ns, a / m, b, upd_same, ?_, Int.ediv_nonneg ha (by omega), hb, hb2⟩ k1.updp
        rw [upd_ne npl.symm]
        exact hl
      · -- source[2] = (source[2] * source[2] + 1000003) % 998244353
        refine ⟨.ref p, rfl, p, _, 2, .int b, rfl, rfl, SqL.of hp, atI_nat (j := 2) rfl, .ref p, rfl, p, _, 2, .int b, rfl, rfl, SqL.of hp, atI_nat (j := 2) rfl, b, b, rfl, rfl, .inl ⟨by omega, by omega⟩, _, _, rfl, rfl, _, 998244353, rfl, rfl, (show (0 : Int) < 998244353 by decide), .ref p, rfl, p, _, 2, 2, rfl, rfl, hp, rfl, ?_⟩
        have hp3 : (upd H' p (.lst [.ref l, .int a, .int ((b * b + 1000003) % 998244353)])) p = some (.lst [.ref l, .int a, .int ((b * b + 1000003) % 998244353)]) := upd_same
        refine ⟨.ref p, rfl, p, _, 2, .int ((b * b + 1000003) % 998244353), rfl, rfl, SqL.of hp3, atI_nat (j := 2) rfl, _, _, rfl, rfl, ⟨by decide, by decide⟩, .int m, rfl, _, m, rfl, rfl, hm, ?_⟩
        refine q _ _ (Int.emod_nonneg _ (by omega)) (Int.emod_lt_of_pos _ hm) ⟨npl, ns, a, (b * b + 1000003) % 998244353, hp3, ?_, ha, by omega, by omega⟩ k1.updp
        rw [upd_ne npl.symm]
        exact hl
/-! ### _law_source -/
def spSource (K : PySem.W.Frag) : Sp := fun vs H Q _ => ∃ (a : Addr) (ns : List Int), vs = [.ref a] ∧ SqL K H a (ns.map V.int) ∧ ∀ p l H', Same H H' → H p = none → H l = none → Sc p l H' → Q (.ref p) H'
theorem ok_source {f : Addr} {fd : FuncData} {k : Nat} (F : Fun K "_law_source" "_law_source" sSource f fd) (ml : mg "list" = none) : FnOk P w K mg base CX0 (k + 1) f fd ["script"] (spSource K) := by
  refine F.ok scSource (fun vs H Q E h => ?_) (fun cdv A outer s H vs Q E hr h => ?_)
  · obtain ⟨a, ns, rfl, _⟩ := h
    rfl
  · obtain ⟨a, ns, rfl, hS, q⟩ := h
    refine ⟨_, pss_cons (ps_set (i := 1) scSource.nd rfl (.inl rfl) pe_int)
      (pss_cons (ps_for PassesOwn.never rfl (pi_list (pv 0)) (pg_name (i := 2) scSource.nd rfl (.inl rfl))
        (pss_one (ps_set (i := 1) scSource.nd rfl (.inl rfl) (pe_op op_mod (pe_op op_add (pe_op op_mul (pv 1) pe_int) (pv 2)) pe_int))))
      (pss_one (ps_ret (pe_lst (pa_cons (pe_callTy call_list_of (by rfl) ml (by decide +kernel) (pa_cons (pv 0) pa_nil)) (pa_cons pe_int (pa_cons (pv 1) pa_nil))))))), ?_⟩
    refine ⟨.ref a, rfl, a, rfl, ⟨_, hS⟩, for_list (K := K) (xs := ns.map V.int) (fun i σ H1 => ∃ c s2, σ = [some (.ref a), some (.int c), s2] ∧ 0 ≤ c ∧ c < 998244353 ∧ H1 = H) ⟨_, _, rfl, by decide, by decide, rfl⟩ (fun i σ H1 _ h => ?_) (fun i x σ H1 hx h => ?_) (fun σ H1 h => ?_)⟩
    · obtain ⟨c, s2, rfl, _, _, rfl⟩ := h
      exact hS
    · obtain ⟨c, s2, rfl, h1, h2, rfl⟩ := h
      obtain ⟨n, _, rfl⟩ := map_get hx
      refine ⟨_, rfl, c, _, rfl, rfl, .inl ⟨by omega, by omega⟩, _, rfl, _, n, rfl, rfl, _, 998244353, rfl, rfl, (show (0 : Int) < 998244353 by decide), ?_⟩
      exact ⟨_, _, rfl, Int.emod_nonneg _ (by decide), Int.emod_lt_of_pos _ (by decide), rfl⟩
    · obtain ⟨c, s2, rfl, h1, h2, rfl⟩ := h
      refine ⟨.ref a, rfl, a, _, rfl, .inl hS, fun l hl => ?_⟩
      refine ⟨_, rfl, (show 3 ≤ sizeLine by decide), fun p hp => ?_⟩
      have npl : p ≠ l := fun e => by
        rw [e, upd_same] at hp
        cases hp
      refine q p l _ ((same_upd hl).trans (same_upd hp)) ?_ hl ⟨npl, ns, 0, c, upd_same, ?_, by decide, h1, h2⟩
      · exact (same_upd hl).free hp
      · rw [upd_ne npl.symm, upd_same]
/-! ### _law_crate -/
def spCrate : Sp := fun vs H Q _ => ∃ (p l : Addr), vs = [.ref p] ∧ Sc p l H ∧ ∀ (t : Addr) (ws : List Int) H', ws.length ≤ 59 → (∀ x ∈ ws, 0 ≤ x ∧ x ≤ 12) → H t = none → H' t = some (.tup (ws.map V.int)) → Sc p l H' → Kp p l H H' → Q (.ref t) H'
theorem ok_crate {f fN : Addr} {fd fdN : FuncData} {k : Nat} (F : Fun K "_law_crate" "_law_crate" sCrate f fd) (FN : Fun K "_law_next" "_law_next" sNext fN fdN) (bN : Binds K fdN ["source", "many"] []) (gN : mg "_law_next" = some (.ref fN)) (mabs : mg "abs" = none) (mt : mg "tuple" = none) (mr : mg "range" = none) : FnOk P w K mg base CX0 (k + 1 + 1) f fd ["source"] spCrate := by
  have GN : FnOk P w K mg base CX0 (k + 1) fN fdN ["source", "many"] spNext := ok_next FN mabs
  refine F.ok scCrate (fun vs H Q E h => ?_) (fun cdv A outer s H vs Q E hr h => ?_)
  · obtain ⟨p, l, rfl, _⟩ := h
    rfl
  · obtain ⟨p, l, rfl, hS, q⟩ := h
    refine ⟨_, pss_cons (ps_set (i := 1) scCrate.nd rfl (.inl rfl) (pe_call GN hr (by rfl) gN FN.kp bN .nil pass0 (pa_cons (pv 0) (pa_cons pe_int pa_nil))))
      (pss_cons (ps_set (i := 2) scCrate.nd rfl (.inr rfl) (pe_op op_add pe_int (pe_call GN hr (by rfl) gN FN.kp bN .nil pass0 (pa_cons (pv 0) (pa_cons pe_int pa_nil)))))
      (C8.pss_cut (ps_if (pt_cmpR op_eq (pe_call GN hr (by rfl) gN FN.kp bN .nil pass0 (pa_cons (pv 0) (pa_cons pe_int pa_nil))) pe_int (nomark _))
          (pss_cons (ps_set (i := 1) scCrate.nd rfl (.inl rfl) (pe_op op_add (pv 1) (pe_call GN hr (by rfl) gN FN.kp bN .nil pass0 (pa_cons (pv 0) (pa_cons pe_int pa_nil))))) (pss_one (ps_set (i := 2) scCrate.nd rfl (.inr rfl) pe_int))) pss_nil)
      (pss_one (ps_ret (pe_callTy call_tuple_of (by rfl) mt (by decide +kernel) (pa_cons (pe_lc (own := [("k", 3)]) (g := gName 3) (tt := tYes) rfl scCrate.nd (pi_range1 rfl mr (pa_cons (pv 1) pa_nil)) (blkOk_by (N := ["source", "size", "most", "k"]) (sc := defScope sCrate) (by decide +kernel)) (fun _ _ _ _ _ => pg_name (i := 3) scCrate.nd rfl (Or.inl rfl)) (fun _ _ _ _ _ => pts_nil)
        (fun _ _ _ _ _ => pe_call GN hr (by rfl) gN FN.kp bN .nil pass0 (pa_cons (pv 0) (pa_cons (pe_op op_add (pv 2) pe_int) pa_nil)))) pa_nil)))))), ?_⟩
    refine ⟨.ref p, rfl, p, l, 5, rfl, hS, by decide, lg (by decide) (by decide), fun r1 H1 a1 b1 S1 k1 => ?_⟩
    refine ⟨.ref p, rfl, p, l, 4, rfl, S1, by decide, lg (by decide) (by decide), fun r2 H2 a2 b2 S2 k2 => ?_⟩
    refine ⟨1, r2, rfl, rfl, ?_⟩
    refine ⟨fun σ' H' => ∃ sz mo, σ' = [some (.ref p), some (.int sz), some (.int mo), none] ∧ 0 ≤ sz ∧ sz ≤ 59 ∧ 0 ≤ mo ∧ mo ≤ 12 ∧ Sc p l H' ∧ Kp p l H H', ?_, fun σ' H' hM => ?_⟩
    · refine ⟨.ref p, rfl, p, l, 8, rfl, S2, by decide, lg (by decide) (by decide), fun r3 H3 a3 b3 S3 k3 => ?_⟩
      refine ⟨rfl, _, rfl, ite2 (fun e => ?_) (fun e => ?_)⟩
      · refine ⟨.int r1, rfl, .ref p, rfl, p, l, 17, rfl, S3, by decide, lg (by decide) (by decide), fun r4 H4 a4 b4 S4 k4 => ?_⟩
        exact ⟨r1, r4, rfl, rfl, r1 + r4, 12, rfl, by omega, by omega, by decide, by decide, S4, ((k1.trans k2).trans k3).trans k4⟩
      · exact ⟨r1, 1 + r2, rfl, a1, by omega, by omega, by omega, S3, (k1.trans k2).trans k3⟩
    · obtain ⟨sz, mo, rfl, z0, z1, m0, m1, S5, k5⟩ := hM
      refine ⟨.int sz, rfl, sz, rfl, by omega, by omega, fun D hD => lc_range (lo := 0) (n := sz.toNat) (fun i H6 => ∃ ws : List Int, ws.length = i ∧ (∀ x ∈ ws, 0 ≤ x ∧ x ≤ 12) ∧ H6 D = some (.lst (ws.map V.int)) ∧ Sc p l H6 ∧ Kp p l H H6) ?_ (fun i H6 hi h6 => ?_) (fun H6 h6 => ?_)⟩
      · exact ⟨[], rfl, (fun x hx => by cases hx), upd_same, S5.upd hD, k5.upd hD⟩
      · obtain ⟨ws, hw, ha, e6, S6, k6⟩ := h6
        refine ⟨rfl, .ref p, rfl, .int mo, rfl, mo, 1, rfl, rfl, p, l, mo + 1, rfl, S6, by omega, lg (by omega) (by omega), fun r7 H7 a7 b7 S7 k7 => ?_⟩
        have nD := S5.ne hD
        have e7 : H7 D = some (.lst (ws.map V.int)) := k7 D _ nD.1 nD.2 e6
        refine ⟨_, e7, ?_, ws ++ [r7], ?_, ?_, ?_, ?_, ?_⟩
        · rw [List.length_map]
          exact small1000 (by omega)
        · rw [List.length_append, hw]
          rfl
        · intro x hx
          rcases List.mem_append.mp hx with hx | hx
          · exact ha x hx
          · rw [List.mem_singleton.mp hx]
            exact ⟨a7, by omega⟩
        · rw [upd_same, List.map_append]
          rfl
        · obtain ⟨n, ns, x, y, f1, f2, rr⟩ := S7
          refine ⟨n, ns, x, y, ?_, ?_, rr⟩
          · rw [upd_ne nD.1.symm]
            exact f1
          · rw [upd_ne nD.2.symm]
            exact f2
        · intro b o h1 h2 e
          have nb : b ≠ D := fun z => by
            rw [z] at e
            rw [(k5.free S5 hD)] at e
            cases e
          rw [upd_ne nb]
          exact k7 b o h1 h2 (k6 b o h1 h2 e)
      · obtain ⟨ws, hw, ha, e6, S6, k6⟩ := h6
        refine ⟨D, _, rfl, .inl ⟨SqL.of e6, fun t ht => ?_⟩⟩
        exact q t ws _ (by omega) ha (k6.free S6 ht) upd_same (S6.upd ht) (k6.upd ht)
/-! ### _law_way -/
def okPre (ws us : List Int) (wy : List (Int × List Int)) : Prop := ∀ (i : Nat) (p : Int × List Int) (x : Int), wy[i]? = some p → ws[i]? = some x → 0 ≤ p.1 ∧ p.1 < (us.length : Int) ∧ us[p.1.toNat]? = some ((p.2.length : Nat) : Int) ∧ ∀ y ∈ p.2, 0 ≤ y ∧ y < x
theorem okPre_push {ws us : List Int} {wy : List (Int × List Int)} {q : Int × List Int} {x : Int} (h : okPre ws us wy) (hx : ws[wy.length]? = some x) (hq : 0 ≤ q.1 ∧ q.1 < (us.length : Int) ∧ us[q.1.toNat]? = some ((q.2.length : Nat) : Int) ∧ ∀ y ∈ q.2, 0 ≤ y ∧ y < x) : okPre ws us (wy ++ [q]) := by
  intro i p z h1 h2
  by_cases hi : i < wy.length
  · rw [List.getElem?_append_left hi] at h1
    exact h i p z h1 h2
  · have hlt : i < (wy ++ [q]).length := (List.getElem?_eq_some_iff.mp h1).1
    rw [List.length_append] at hlt
    have ei : i = wy.length := by
      have : ([q] : List (Int × List Int)).length = 1 := rfl
      omega
    subst ei
    rw [List.getElem?_append_right (Nat.le_refl _), Nat.sub_self] at h1
    cases h1
    rw [hx] at h2
    cases h2
    exact hq
def spWay : Sp := fun vs H Q _ => ∃ (p l t1 t2 : Addr) (ws us : List Int), vs = [.ref p, .ref t1, .ref t2] ∧ Sc p l H ∧ H t1 = some (.tup (ws.map V.int)) ∧ H t2 = some (.tup (us.map V.int)) ∧ ws.length ≤ 61 ∧ us.length ≤ 61 ∧ (∀ x ∈ ws, 0 ≤ x ∧ x ≤ 12) ∧ (∀ x ∈ us, 0 ≤ x ∧ x ≤ 12) ∧
  (∀ H', (∃ x ∈ ws, ∀ u ∈ us, ¬ (0 < x ∨ u = 0)) → Sc p l H' → Kp p l H H' → Q .non H') ∧ ∀ a wy H', WayOk ws us wy → Way H' a wy → Sc p l H' → Kp p l H H' → Q (.ref a) H'
theorem ok_way {f fN : Addr} {fd fdN : FuncData} {k : Nat} (F : Fun K "_law_way" "_law_way" sWay f fd) (FN : Fun K "_law_next" "_law_next" sNext fN fdN) (bN : Binds K fdN ["source", "many"] []) (gN : mg "_law_next" = some (.ref fN)) (mabs : mg "abs" = none) (mt : mg "tuple" = none) (mr : mg "range" = none) (mlen : mg "len" = none) : FnOk P w K mg base CX0 (k + 1 + 1) f fd ["source", "one", "other"] spWay := by
  have GN : FnOk P w K mg base CX0 (k + 1) fN fdN ["source", "many"] spNext := ok_next FN mabs
  refine F.ok scWay (fun vs H Q E h => ?_) (fun cdv A outer s H vs Q E hr h => ?_)
  · obtain ⟨p, l, t1, t2, ws, us, rfl, _⟩ := h
    rfl
  · obtain ⟨p, l, t1, t2, ws, us, rfl, hS, e1, e2, hl1, hl2, hw, hu, qN, q⟩ := h
    refine ⟨_, pss_cons (ps_set (i := 3) scWay.nd rfl (.inl rfl) (pe_lst pa_nil))
      (pss_cons (ps_for PassesOwn.never rfl (pi_tup (pv 1)) (pg_name (i := 4) scWay.nd rfl (.inr rfl))
        (pss_cons (ps_setLc (i := 5) (own := [("tray", 7)]) (g := gName 7) (tt := tOr (tTest (tOp (rI0 fun i j => .bl (decide (j < i))) (tVar 4) (tC (.int 0)))) (tTest (tOp rEq (tOp (rIxT K) (tVar 2) (tVar 7)) (tC (.int 0))))) (te := tVar 7) rfl scWay.nd rfl rfl (sw_true rfl rfl rfl (by decide +kernel)) (pi_range1 rfl mr (pa_cons (pe_callB call_len_seq (by rfl) mlen PySem.boot_len (pa_cons (pv 2) pa_nil)) pa_nil)) (blkOk_by (N := ["source", "one", "other", "way", "wells", "able", "there", "tray", "k"]) (sc := defScope sWay) (by decide +kernel))
          (fun _ _ _ _ _ => pg_name (i := 7) scWay.nd rfl (Or.inl rfl)) (fun _ _ _ _ _ => pts_one (PW.pt (pw_or (pt_cmpR op_gt (pv 4) pe_int (nomark _)) (pw_or1 (pt_cmpR op_eq (pe_ix ix_tup (pv 2) (pv 7) (fun _ _ => rfl)) pe_int (nomark _)))))) (fun _ _ _ _ _ => pv 7))
        (pss_cons (ps_if (pt_cmpR (op_eqD hr.units) (pv 5) (pe_lst pa_nil) (nomark _)) (pss_one (ps_ret pe_non)) pss_nil)
        (pss_cons (ps_set (i := 6) scWay.nd rfl (.inl rfl) (pe_ix ix_list (pv 5) (pe_call GN hr (by rfl) gN FN.kp bN .nil pass0 (pa_cons (pv 0) (pa_cons (pe_callB call_len_seq (by rfl) mlen PySem.boot_len (pa_cons (pv 5) pa_nil)) pa_nil))) (fun _ _ => rfl)))
        (pss_one (ps_expr (pe_bm PySem.F.plainAttrs_list PySem.F.slot_list_append PySem.F.type_list_append mt_append (pv 3) (pa_cons (pe_tup (pa_cons (pv 6) (pa_cons (pe_callTy call_tuple_of (by rfl) mt (by decide +kernel) (pa_cons (pe_lc (own := [("k", 8)]) (g := gName 8) (tt := tYes) rfl scWay.nd (pi_range1 rfl mr (pa_cons (pe_ix ix_tup (pv 2) (pv 6) (fun _ _ => rfl)) pa_nil)) (blkOk_by (N := ["source", "one", "other", "way", "wells", "able", "there", "tray", "k"]) (sc := defScope sWay) (by decide +kernel)) (fun _ _ _ _ _ => pg_name (i := 8) scWay.nd rfl (Or.inl rfl)) (fun _ _ _ _ _ => pts_nil)
          (fun _ _ _ _ _ => pe_call GN hr (by rfl) gN FN.kp bN .nil pass0 (pa_cons (pv 0) (pa_cons (pv 4) pa_nil)))) pa_nil)) pa_nil))) pa_nil))))))))
      (pss_one (ps_ret (pe_callTy call_tuple_of (by rfl) mt (by decide +kernel) (pa_cons (pv 3) pa_nil))))), ?_⟩
    refine ⟨Nat.zero_le _, fun R hR => ?_⟩
    have nR := hS.ne hR
    refine ⟨.ref t1, rfl, t1, rfl, ⟨_, SqT.of (same_upd hR _ _ e1)⟩, for_tup (K := K) (xs := ws.map V.int) (fun i σ H2 => ∃ y4 y5 y6 xs wy, σ = [some (.ref p), some (.ref t1), some (.ref t2), some (.ref R), y4, y5, y6, none, none] ∧ H2 R = some (.lst xs) ∧ Pairs H2 xs wy ∧ wy.length = i ∧ okPre ws us wy ∧ Sc p l H2 ∧ Kp p l H H2) ?_ (fun i σ H2 _ h => ?_) (fun i x σ H2 hx h => ?_) (fun σ H2 h => ?_)⟩
    · exact ⟨none, none, none, [], [], rfl, upd_same, ⟨rfl, fun i x p h1 _ => by simp at h1⟩, rfl, (fun i p x h1 _ => by simp at h1), hS.upd hR, (Kp.refl H).upd hR⟩
    · obtain ⟨y4, y5, y6, xs, wy, rfl, eR, pR, hwl, hok, S2, k2⟩ := h
      exact SqT.of (k2.keepT hS _ _ e1)
    · obtain ⟨y4, y5, y6, xs, wy, rfl, eR, pR, hwl, hok, S2, k2⟩ := h
      obtain ⟨wl, hwi, rfl⟩ := map_get hx
      have hwb := hw wl (List.mem_of_getElem? hwi)
      have hil : i < ws.length := (List.getElem?_eq_some_iff.mp hwi).1
      have e22 := k2.keepT hS _ _ e2
      -- able
      refine ⟨.ref t2, rfl, t2, _, rfl, .inr (SqT.of e22), ((us.map V.int).length : Int), rfl, by omega, by rw [List.length_map]; omega, fun D hD => lc_range (lo := 0) (n := (((us.map V.int).length : Int)).toNat) (fun j H3 => ∃ as : List Int, H3 D = some (.lst (as.map V.int)) ∧ as.length ≤ j ∧ (∀ z ∈ as, 0 ≤ z ∧ z < (us.length : Int) ∧ ∃ u, us[z.toNat]? = some u ∧ (0 < wl ∨ u = 0)) ∧ (as = [] → ∀ m u, m < j → us[m]? = some u → ¬ (0 < wl ∨ u = 0)) ∧ Same H2 H3) ?_ (fun j H3 hj h3 => ?_) (fun H3 h3 => ?_)⟩
      · exact ⟨[], upd_same, Nat.le_refl _, (fun z hz => by cases hz), (fun _ m u hm => absurd hm (Nat.not_lt_zero _)), same_upd hD⟩
      · obtain ⟨as, eD, hal, ha, hn, s3⟩ := h3
        rw [Int.toNat_natCast, List.length_map] at hj
        have gu : us[j]? = some us[j] := List.getElem?_eq_getElem hj
        have e23 := s3 _ _ e22
        have yes : (0 < wl ∨ us[j] = 0) → ∃ acc, H3 D = some (.lst acc) ∧ acc.length < sizeLine ∧ ∃ as : List Int, (upd H3 D (.lst (acc ++ [.int (0 + (j : Int))]))) D = some (.lst (as.map V.int)) ∧ as.length ≤ j + 1 ∧ (∀ z ∈ as, 0 ≤ z ∧ z < (us.length : Int) ∧ ∃ u, us[z.toNat]? = some u ∧ (0 < wl ∨ u = 0)) ∧ (as = [] → ∀ m u, m < j + 1 → us[m]? = some u → ¬ (0 < wl ∨ u = 0)) ∧ Same H2 (upd H3 D (.lst (acc ++ [.int (0 + (j : Int))]))) := fun hy => by
          refine ⟨_, eD, ?_, as ++ [(j : Int)], ?_, ?_, fun z hz => ?_, (fun e => by simp at e), fun b o e => ?_⟩
          · rw [List.length_map]
            exact small2000 (by omega)
          · rw [upd_same, List.map_append, Int.zero_add]
            rfl
          · rw [List.length_append]
            have : ([(j : Int)] : List Int).length = 1 := rfl
            omega
          · rcases List.mem_append.mp hz with hz | hz
            · exact ha z hz
            · rw [List.mem_singleton.mp hz]
              refine ⟨by omega, by omega, us[j], ?_, hy⟩
              rw [Int.toNat_natCast]
              exact gu
          · rw [upd_ne (ne_of_none e hD)]
            exact s3 _ _ e
        refine ⟨rfl, .int wl, rfl, wl, 0, rfl, rfl, _, rfl, ite2 (fun c0 => ?_) (fun c0 => ?_)⟩
        · refine iteT ?_
          exact ⟨.int (0 + (j : Int)), rfl, yes (.inl (of_decide_eq_true c0))⟩
        · refine ⟨.ref t2, rfl, .int (0 + (j : Int)), rfl, t2, _, 0 + (j : Int), .int us[j], rfl, rfl, SqT.of e23, at_of (j := j) (by omega) (by rw [List.getElem?_map, gu]; rfl), rfl, _, rfl, ?_⟩
          by_cases c1 : us[j] = 0
          · rw [decide_eq_true (show V.int us[j] = V.int 0 by rw [c1])]
            refine iteT ?_
            exact ⟨.int (0 + (j : Int)), rfl, yes (.inr c1)⟩
          · rw [decide_eq_false (show ¬ (V.int us[j] = V.int 0) from fun z => c1 (V.int.inj z))]
            refine iteF ?_
            refine ⟨as, eD, by omega, ha, fun e m u hm hmu => ?_, s3⟩
            by_cases hmj : m = j
            · subst hmj
              rw [gu] at hmu
              cases hmu
              rintro (z | z)
              · exact c0 (decide_eq_true z)
              · exact c1 z
            · exact hn e m u (by omega) hmu
      · obtain ⟨as, eD, hal, ha, hn, s3⟩ := h3
        rw [Int.toNat_natCast, List.length_map] at hn hal
        have S3 := S2.same s3
        have k3 : Kp p l H H3 := k2.trans (.of_same s3)
        have fD : H D = none := k2.free S2 hD
        -- able == []
        refine ⟨.ref D, rfl, Nat.zero_le _, fun z hz => ?_⟩
        refine ⟨.list (as.map PyData.int), .list [], .lst (SqL.of (same_upd hz _ _ eD)) (dpAll_int as), .lst (SqL.of upd_same) .nil, shaped_ints as, shaped_ints [], _, rfl, ?_⟩
        rw [eqv_nil]
        cases as with
        | nil =>
          refine iteT ?_
          refine qN _ ⟨wl, List.mem_of_getElem? hwi, fun u hu' => ?_⟩ (S3.upd hz) (k3.upd hz)
          obtain ⟨m, hm, rfl⟩ := List.getElem_of_mem hu'
          exact hn rfl m _ hm (List.getElem?_eq_getElem hm)
        | cons a0 ar =>
          refine iteF ?_
          have eD4 := same_upd (o := .lst []) hz _ _ eD
          refine ⟨.ref D, rfl, .ref p, rfl, .ref D, rfl, D, _, rfl, .inl (SqL.of eD4), p, l, _, rfl, S3.upd hz, ?_, ?_, fun r H5 a5 b5 S5 k5 => ?_⟩
          · rw [List.length_map, List.length_cons]
            omega
          · refine lg ?_ ?_
            · rw [List.length_map, List.length_cons]
              omega
            · rw [List.length_map]
              omega
          rw [List.length_map] at b5
          have hrl : r.toNat < (a0 :: ar).length := by omega
          have nD := S2.ne hD
          obtain ⟨c0, c1, u, gu, hor⟩ := ha _ (List.getElem_mem hrl)
          refine ⟨D, _, r, .int (a0 :: ar)[r.toNat], rfl, rfl, SqL.of (k5.get nD eD4), atW a5 (List.getElem?_eq_getElem hrl), ?_⟩
          generalize (a0 :: ar)[r.toNat] = th at c0 c1 gu hor ⊢
          have hub := hu u (List.mem_of_getElem? gu)
          have k5' : Kp p l H H5 := (k3.upd hz).trans k5
          have e25 := k5'.keepT hS _ _ e2
          have eR5 : H5 R = some (.lst xs) := k5.get nR (same_upd hz _ _ (s3 _ _ eR))
          have pR5 : Pairs H5 xs wy := pR.keep ((KeepT.of_same s3).trans ((KeepT.of_same (same_upd hz)).trans (k5.keepT (S3.upd hz))))
          refine ⟨.ref R, rfl, .inl ⟨rfl, _, SqL.of eR5⟩, .int th, rfl, .ref t2, rfl, .int th, rfl, t2, _, th, .int u, rfl, rfl, SqT.of e25, atW c0 gu, u, rfl, by omega, by omega, fun D2 hD2 => lc_range (lo := 0) (n := u.toNat) (fun j H6 => ∃ zs : List Int, zs.length = j ∧ (∀ y ∈ zs, 0 ≤ y ∧ y < wl) ∧ H6 D2 = some (.lst (zs.map V.int)) ∧ Sc p l H6 ∧ Kp p l H5 H6) ?_ (fun j H6 hj h6 => ?_) (fun H6 h6 => ?_)⟩
          · exact ⟨[], rfl, (fun y hy => by cases hy), upd_same, S5.upd hD2, (Kp.refl _).upd hD2⟩
          · obtain ⟨zs, hz1, hz2, e6, S6, k6⟩ := h6
            have wpos : 0 < wl := by
              rcases hor with z | z
              · exact z
              · omega
            have n2 := S5.ne hD2
            refine ⟨rfl, .ref p, rfl, .int wl, rfl, p, l, wl, rfl, S6, wpos, lg wpos (by omega), fun r7 H7 a7 b7 S7 k7 => ?_⟩
            refine ⟨_, k7.get n2 e6, ?_, zs ++ [r7], ?_, ?_, ?_, S7.lst n2, (k6.trans k7).lst hD2⟩
            · rw [List.length_map]
              exact small2000 (by omega)
            · rw [List.length_append, hz1]
              rfl
            · intro y hy
              rcases List.mem_append.mp hy with hy | hy
              · exact hz2 y hy
              · rw [List.mem_singleton.mp hy]
                exact ⟨a7, b7⟩
            · rw [upd_same, List.map_append]
              rfl
          · obtain ⟨zs, hz1, hz2, e6, S6, k6⟩ := h6
            refine ⟨D2, _, rfl, .inl ⟨SqL.of e6, fun tz htz => ⟨(show 2 ≤ sizeLine by decide), fun tp htp => ?_⟩⟩⟩
            have T1 := S6.upd (o := .tup (zs.map V.int)) htz
            have T2 := T1.upd (o := .tup [.int th, .ref tz]) htp
            have eR8 := same_upd (o := .tup [.int th, .ref tz]) htp _ _ (same_upd (o := .tup (zs.map V.int)) htz _ _ (k6.get nR eR5))
            refine ⟨R, xs, .ref tp, rfl, rfl, eR8, ?_, ?_⟩
            · rw [pR.1, hwl]
              exact small2000 (by omega)
            · have kt := keep_lst (acc' := xs ++ [.ref tp]) eR8
              have kq : KeepT H5 (upd (upd H6 tz (.tup (zs.map V.int))) tp (.tup [.int th, .ref tz])) := (k6.keepT S5).trans ((KeepT.of_same (same_upd htz)).trans (.of_same (same_upd htp)))
              refine ⟨_, _, _, _, wy ++ [(th, zs)], rfl, upd_same, ?_, ?_, ?_, T2.lst nR, Kp.lst (((k5'.trans k6).upd htz).upd htp) hR⟩
              · exact Pairs.push (p := (th, zs)) ((pR5.keep kq).keep kt) (kt _ _ upd_same) (kt _ _ (same_upd htp _ _ upd_same))
              · rw [List.length_append, hwl]
                rfl
              · refine okPre_push hok (by rw [hwl]; exact hwi) ⟨c0, c1, ?_, hz2⟩
                show us[th.toNat]? = some ((zs.length : Nat) : Int)
                rw [gu, hz1]
                congr 1
                omega
    · obtain ⟨y4, y5, y6, xs, wy, rfl, eR, pR, hwl, hok, S2, k2⟩ := h
      rw [List.length_map] at hwl
      refine ⟨.ref R, rfl, R, _, rfl, .inl ⟨SqL.of eR, fun a ha => ?_⟩⟩
      exact q a wy _ ⟨hwl, hok⟩ ⟨xs, upd_same, pR.keep (.of_same (same_upd ha))⟩ (S2.upd ha) (k2.upd ha)
/-! ### _law_two -/
def spTwo : Sp := fun vs H Q _ => ∃ (p l : Addr), vs = [.ref p] ∧ Sc p l H ∧ ∀ (t1 t2 a u : Addr) (ws us : List Int) (wy : List (Int × List Int)) H', ws.length ≤ 59 → us.length ≤ 60 → (∀ x ∈ ws, 0 ≤ x ∧ x ≤ 12) → (∀ x ∈ us, 0 ≤ x ∧ x ≤ 12) → WayOk ws us wy →
  H' t1 = some (.tup (ws.map V.int)) → H' t2 = some (.tup (us.map V.int)) → Way H' a wy → H' u = some (.tup [.ref t1, .ref t2, .ref a]) → Sc p l H' → Kp p l H H' → Q (.ref u) H'
theorem ok_two {f fN fR fY : Addr} {fd fdN fdR fdY : FuncData} {k : Nat} (F : Fun K "_law_two" "_law_two" sTwo f fd) (FN : Fun K "_law_next" "_law_next" sNext fN fdN) (bN : Binds K fdN ["source", "many"] []) (gN : mg "_law_next" = some (.ref fN))
    (FR : Fun K "_law_crate" "_law_crate" sCrate fR fdR) (bR : Binds K fdR ["source"] []) (gR : mg "_law_crate" = some (.ref fR)) (FY : Fun K "_law_way" "_law_way" sWay fY fdY) (bY : Binds K fdY ["source", "one", "other"] []) (gY : mg "_law_way" = some (.ref fY))
    (mabs : mg "abs" = none) (mt : mg "tuple" = none) (mr : mg "range" = none) (mlen : mg "len" = none) : FnOk P w K mg base CX0 (k + 2 + 1) f fd ["source"] spTwo := by
  have GR : FnOk P w K mg base CX0 2 fR fdR ["source"] spCrate := ok_crate FR FN bN gN mabs mt mr
  have GY : FnOk P w K mg base CX0 2 fY fdY ["source", "one", "other"] spWay := ok_way FY FN bN gN mabs mt mr mlen
  refine F.ok scTwo (fun vs H Q E h => ?_) (fun cdv A outer s H vs Q E hr0 h => ?_)
  · obtain ⟨p, l, rfl, _⟩ := h
    rfl
  · obtain ⟨p, l, rfl, hS, q⟩ := h
    have hr : Room 2 _ := hr0.mono (by omega)
    refine ⟨_, pss_cons (ps_set (i := 1) scTwo.nd rfl (.inl rfl) (pe_call GR hr (by rfl) gR FR.kp bR .nil pass0 (pa_cons (pv 0) pa_nil)))
      (pss_cons (ps_set (i := 2) scTwo.nd rfl (.inl rfl) (pe_call GR hr (by rfl) gR FR.kp bR .nil pass0 (pa_cons (pv 0) pa_nil)))
      (pss_cons (ps_set (i := 3) scTwo.nd rfl (.inl rfl) (pe_call GY hr (by rfl) gY FY.kp bY .nil pass0 (pa_cons (pv 0) (pa_cons (pv 1) (pa_cons (pv 2) pa_nil)))))
      (C8.pss_cut (ps_if (pt_cmpR op_isN (pv 3) pe_non (nomark _)) (pss_cons (ps_set (i := 2) scTwo.nd rfl (.inl rfl) (pe_op op_catA (pv 2) (pe_tup (pa_cons pe_int pa_nil)))) (pss_one (ps_set (i := 3) scTwo.nd rfl (.inl rfl) (pe_call GY hr (by rfl) gY FY.kp bY .nil pass0 (pa_cons (pv 0) (pa_cons (pv 1) (pa_cons (pv 2) pa_nil))))))) pss_nil)
      (pss_one (ps_ret (pe_tup (pa_cons (pv 1) (pa_cons (pv 2) (pa_cons (pv 3) pa_nil))))))))), ?_⟩
    refine ⟨.ref p, rfl, p, l, rfl, hS, fun t1 ws H1 hl1 hw ft1 e1 S1 k1 => ?_⟩
    refine ⟨.ref p, rfl, p, l, rfl, S1, fun t2 us H2 hl2 hu ft2 e2 S2 k2 => ?_⟩
    have e12 := k2.keepT S1 _ _ e1
    have k12 := k1.trans k2
    have last : ∀ (t2 a : Addr) (us : List Int) (wy : List (Int × List Int)) (H4 : Hp), us.length ≤ 60 → (∀ x ∈ us, 0 ≤ x ∧ x ≤ 12) → WayOk ws us wy → H4 t2 = some (.tup (us.map V.int)) → Way H4 a wy → Sc p l H4 → Kp p l H2 H4 → (fun σ' H' => ∃ t2 a us wy, σ' = [some (V.ref p), some (.ref t1), some (.ref t2), some (.ref a)] ∧ us.length ≤ 60 ∧ (∀ x ∈ us, 0 ≤ x ∧ x ≤ 12) ∧ WayOk ws us wy ∧ H' t1 = some (.tup (ws.map V.int)) ∧ H' t2 = some (.tup (us.map V.int)) ∧ Way H' a wy ∧ Sc p l H' ∧ Kp p l H H') [some (V.ref p), some (.ref t1), some (.ref t2), some (.ref a)] H4 :=
      fun t2 a us wy H4 h1 h2 h3 h4 h5 h6 h7 => ⟨t2, a, us, wy, rfl, h1, h2, h3, h7.keepT S2 _ _ e12, h4, h5, h6, k12.trans h7⟩
    refine ⟨.ref p, rfl, .ref t1, rfl, .ref t2, rfl, p, l, t1, t2, ws, us, rfl, S2, e12, e2, by omega, by omega, hw, hu, fun H3 hno S3 k3 => ?_, fun a wy H3 hok hwy S3 k3 => ?_⟩
    · refine ⟨fun σ' H' => ∃ t2 a us wy, σ' = [some (V.ref p), some (.ref t1), some (.ref t2), some (.ref a)] ∧ us.length ≤ 60 ∧ (∀ x ∈ us, 0 ≤ x ∧ x ≤ 12) ∧ WayOk ws us wy ∧ H' t1 = some (.tup (ws.map V.int)) ∧ H' t2 = some (.tup (us.map V.int)) ∧ Way H' a wy ∧ Sc p l H' ∧ Kp p l H H', ?_, fun σ' H' hM => ?_⟩
      · refine ⟨.non, rfl, rfl, _, rfl, ?_⟩
        rw [decide_eq_true rfl]
        refine iteT ?_
        have e23 := k3.keepT S2 _ _ e2
        have e13 := k3.keepT S2 _ _ e12
        have fin : ∀ (t3 : Addr) (H4 : Hp), H4 t3 = some (.tup ((us ++ [0]).map V.int)) → Same H3 H4 → (tCall spWay [] E0 (tCons (tVar 0) (tCons (tVar 1) (tCons (tVar 2) tNil)))) [some (V.ref p), some (.ref t1), some (.ref t3), some .non] H4 fun x H5 => (fun σ' H' => ∃ t2 a us wy, σ' = [some (V.ref p), some (.ref t1), some (.ref t2), some (.ref a)] ∧ us.length ≤ 60 ∧ (∀ x ∈ us, 0 ≤ x ∧ x ≤ 12) ∧ WayOk ws us wy ∧ H' t1 = some (.tup (ws.map V.int)) ∧ H' t2 = some (.tup (us.map V.int)) ∧ Way H' a wy ∧ Sc p l H' ∧ Kp p l H H') ([some (V.ref p), some (.ref t1), some (.ref t3), some .non].set 3 (some x)) H5 := fun t3 H4 e3 s4 => by
          have S4 := S3.same s4
          have hu' : ∀ x ∈ us ++ [0], 0 ≤ x ∧ x ≤ 12 := fun x hx => by
            rcases List.mem_append.mp hx with hx | hx
            · exact hu x hx
            · rw [List.mem_singleton.mp hx]
              exact ⟨by decide, by decide⟩
          have hl' : (us ++ [0]).length ≤ 60 := by
            rw [List.length_append]
            have : ([0] : List Int).length = 1 := rfl
            omega
          refine ⟨.ref p, rfl, .ref t1, rfl, .ref t3, rfl, p, l, t1, t3, ws, us ++ [0], rfl, S4, s4 _ _ e13, e3, by omega, by omega, hw, hu', fun H5 hno5 _ _ => ?_, fun a wy H5 hok5 hwy5 S5 k5 => ?_⟩
          · obtain ⟨x, _, hx⟩ := hno5
            exact (hx 0 (by simp) (.inr rfl)).elim
          · exact last t3 a (us ++ [0]) wy H5 hl' hu' hok5 (k5.keepT S4 _ _ e3) hwy5 S5 ((k3.trans (.of_same s4)).trans k5)
        refine ⟨.ref t2, rfl, (show 1 ≤ sizeLine by decide), fun z hz => ?_⟩
        refine ⟨t2, z, us.map V.int, [.int 0], rfl, rfl, SqT.of (same_upd hz _ _ e23), SqT.of upd_same, ?_, fun e => ?_, (fun _ e => by cases e), fun _ _ y hy => ?_⟩
        · rw [List.length_map]
          exact Nat.le_of_lt (small2000 (show us.length + 1 ≤ 3000 by omega))
        · have eu : us = [] := List.map_eq_nil_iff.mp e
          refine fin z _ ?_ (same_upd hz)
          rw [eu]
          exact upd_same
        · refine fin y _ ?_ ((same_upd hz).trans (same_upd hy))
          rw [upd_same, List.map_append]
          rfl
      · obtain ⟨t2, a, us, wy, rfl, h1, h2, h3, h4, h5, h6, h7, h8⟩ := hM
        refine ⟨.ref t1, rfl, .ref t2, rfl, .ref a, rfl, (show 3 ≤ sizeLine by decide), fun u hu => ?_⟩
        exact q t1 t2 a u ws us wy _ hl1 h1 hw h2 h3 (same_upd hu _ _ h4) (same_upd hu _ _ h5) (h6.keep (.of_same (same_upd hu))) upd_same (h7.upd hu) (h8.upd hu)
    · refine ⟨fun σ' H' => ∃ t2 a us wy, σ' = [some (V.ref p), some (.ref t1), some (.ref t2), some (.ref a)] ∧ us.length ≤ 60 ∧ (∀ x ∈ us, 0 ≤ x ∧ x ≤ 12) ∧ WayOk ws us wy ∧ H' t1 = some (.tup (ws.map V.int)) ∧ H' t2 = some (.tup (us.map V.int)) ∧ Way H' a wy ∧ Sc p l H' ∧ Kp p l H H', ?_, fun σ' H' hM => ?_⟩
      · refine ⟨.ref a, rfl, rfl, _, rfl, ?_⟩
        rw [decide_eq_false (fun z => by cases z)]
        refine iteF ?_
        exact last t2 a us wy H3 (by omega) hu hok (k3.keepT S2 _ _ e2) hwy S3 k3
      · obtain ⟨t2, a, us, wy, rfl, h1, h2, h3, h4, h5, h6, h7, h8⟩ := hM
        refine ⟨.ref t1, rfl, .ref t2, rfl, .ref a, rfl, (show 3 ≤ sizeLine by decide), fun u hu => ?_⟩
        exact q t1 t2 a u ws us wy _ hl1 h1 hw h2 h3 (same_upd hu _ _ h4) (same_upd hu _ _ h5) (h6.keep (.of_same (same_upd hu))) upd_same (h7.upd hu) (h8.upd hu)
/-! ### _law_any -/
def spAny : Sp := fun vs H Q _ => ∃ (p l : Addr) (N : Addr → Prop), vs = [.ref p] ∧ Sc p l H ∧ N p ∧ N l ∧ Told N H ∧ ∀ v H', AnyF N 1 H' v → Sc p l H' → Kp p l H H' → Q v H'
theorem ok_any {f fN : Addr} {fd fdN : FuncData} {k : Nat} (F : Fun K "_law_any" "_law_any" sAny f fd) (FN : Fun K "_law_next" "_law_next" sNext fN fdN) (bN : Binds K fdN ["source", "many"] []) (gN : mg "_law_next" = some (.ref fN)) (mabs : mg "abs" = none) : FnOk P w K mg base CX0 (k + 1 + 1) f fd ["source"] spAny := by
  have GN : FnOk P w K mg base CX0 (k + 1) fN fdN ["source", "many"] spNext := ok_next FN mabs
  refine F.ok scAny (fun vs H Q E h => ?_) (fun cdv A outer s H vs Q E hr h => ?_)
  · obtain ⟨p, l, N, rfl, _⟩ := h
    rfl
  · obtain ⟨p, l, N, rfl, hS, np, nl, td, q⟩ := h
    refine ⟨_, pss_cons (ps_set (i := 1) scAny.nd rfl (.inl rfl) (pe_call GN hr (by rfl) gN FN.kp bN .nil pass0 (pa_cons (pv 0) (pa_cons pe_int pa_nil))))
      (pss_cons (ps_if (pt_cmpR op_eq (pv 1) pe_int (nomark _)) (pss_one (ps_ret (pe_call GN hr (by rfl) gN FN.kp bN .nil pass0 (pa_cons (pv 0) (pa_cons pe_int pa_nil))))) pss_nil)
      (pss_cons (ps_if (pt_cmpR op_eq (pv 1) pe_int (nomark _)) (pss_one (ps_ret (pe_op op_sub (pe_un un_neg pe_int) (pe_call GN hr (by rfl) gN FN.kp bN .nil pass0 (pa_cons (pv 0) (pa_cons (pe_op op_pow pe_int pe_int) pa_nil)))))) pss_nil)
      (pss_cons (ps_if (pt_cmpR op_eq (pv 1) pe_int (nomark _)) (pss_one (ps_ret (pe_ix ix_list (pe_lst (pa_cons pe_str (pa_cons pe_str (pa_cons pe_str (pa_cons pe_str (pa_cons pe_str pa_nil)))))) (pe_call GN hr (by rfl) gN FN.kp bN .nil pass0 (pa_cons (pv 0) (pa_cons pe_int pa_nil))) (fun _ _ => rfl)))) pss_nil)
      (pss_cons (ps_if (pt_cmpR op_eq (pv 1) pe_int (nomark _)) (pss_one (ps_ret (pe_ix ix_list (pe_lst (pa_cons pe_non (pa_cons pe_bl (pa_cons pe_bl pa_nil)))) (pe_call GN hr (by rfl) gN FN.kp bN .nil pass0 (pa_cons (pv 0) (pa_cons pe_int pa_nil))) (fun _ _ => rfl)))) pss_nil)
      (pss_cons (ps_if (pt_cmpR op_eq (pv 1) pe_int (nomark _)) (pss_one (ps_ret (pe_tup (pa_cons (pe_call GN hr (by rfl) gN FN.kp bN .nil pass0 (pa_cons (pv 0) (pa_cons pe_int pa_nil))) (pa_cons pe_str pa_nil))))) pss_nil)
      (pss_one (ps_ret (pe_lst (pa_cons (pe_call GN hr (by rfl) gN FN.kp bN .nil pass0 (pa_cons (pv 0) (pa_cons pe_int pa_nil))) pa_nil))))))))), ?_⟩
    refine ⟨.ref p, rfl, p, l, 6, rfl, hS, by decide, lg (by decide) (by decide), fun wy H1 a1 b1 S1 k1 => ?_⟩
    refine ⟨.int wy, rfl, rfl, _, rfl, ite2 (fun _ => ?_) (fun _ => ?_)⟩
    · refine ⟨.ref p, rfl, p, l, 5, rfl, S1, by decide, lg (by decide) (by decide), fun r H2 a2 b2 S2 k2 => ?_⟩
      exact q _ _ ⟨_, .int r, flat_int r⟩ S2 (k1.trans k2)
    refine ⟨.int wy, rfl, rfl, _, rfl, ite2 (fun _ => ?_) (fun _ => ?_)⟩
    · refine ⟨1, rfl, .ref p, rfl, 10, 59, rfl, rfl, ⟨by decide, by decide, by decide⟩, p, l, _, rfl, S1, p59, lg59, fun r H2 a2 b2 S2 k2 => ?_⟩
      exact ⟨_, _, rfl, rfl, q _ _ ⟨_, .int _, flat_int _⟩ S2 (k1.trans k2)⟩
    refine ⟨.int wy, rfl, rfl, _, rfl, ite2 (fun _ => ?_) (fun _ => ?_)⟩
    · refine ⟨(show 5 ≤ sizeLine by decide), fun e1 h1 => ?_⟩
      refine ⟨.ref p, rfl, p, l, 5, rfl, S1.upd h1, by decide, lg (by decide) (by decide), fun r H2 a2 b2 S2 k2 => ?_⟩
      obtain ⟨v, hv, ev⟩ := at_in (xs := [V.str "", .str "a", .str "0", .str "ab c", .str "~"]) (n := 5) rfl a2 b2
      refine ⟨e1, _, r, v, rfl, rfl, SqL.of (k2.get (S1.ne h1) upd_same), ev, ?_⟩
      refine q _ _ ?_ S2 ((k1.upd h1).trans k2)
      simp only [List.mem_cons, List.not_mem_nil, or_false] at hv
      rcases hv with rfl | rfl | rfl | rfl | rfl <;> exact ⟨_, .str _, flat_str (by decide +kernel)⟩
    refine ⟨.int wy, rfl, rfl, _, rfl, ite2 (fun _ => ?_) (fun _ => ?_)⟩
    · refine ⟨(show 3 ≤ sizeLine by decide), fun e1 h1 => ?_⟩
      refine ⟨.ref p, rfl, p, l, 3, rfl, S1.upd h1, by decide, lg (by decide) (by decide), fun r H2 a2 b2 S2 k2 => ?_⟩
      obtain ⟨v, hv, ev⟩ := at_in (xs := [V.non, .bl true, .bl false]) (n := 3) rfl a2 b2
      refine ⟨e1, _, r, v, rfl, rfl, SqL.of (k2.get (S1.ne h1) upd_same), ev, ?_⟩
      refine q _ _ ?_ S2 ((k1.upd h1).trans k2)
      simp only [List.mem_cons, List.not_mem_nil, or_false] at hv
      rcases hv with rfl | rfl | rfl
      · exact ⟨_, .non, flat_non⟩
      · exact ⟨_, .bl _, flat_bl _⟩
      · exact ⟨_, .bl _, flat_bl _⟩
    have td1 := td.kp S1 k1
    refine ⟨.int wy, rfl, rfl, _, rfl, ite2 (fun _ => ?_) (fun _ => ?_)⟩
    · refine ⟨.ref p, rfl, p, l, 3, rfl, S1, by decide, lg (by decide) (by decide), fun r H2 a2 b2 S2 k2 => ⟨(show 2 ≤ sizeLine by decide), fun e1 h1 => ?_⟩⟩
      exact q _ _ ⟨_, .tup upd_same (.cons (.int r) (.cons (.str "x") .nil)), flat_tup (flatL_cons (flat_int r) (flatL_cons (flat_str (by decide +kernel)) flatL_nil))⟩ (S2.upd h1) ((k1.trans k2).upd h1)
    · refine ⟨.ref p, rfl, p, l, 3, rfl, S1, by decide, lg (by decide) (by decide), fun r H2 a2 b2 S2 k2 => ⟨(show 1 ≤ sizeLine by decide), fun e1 h1 => ?_⟩⟩
      exact q _ _ ⟨_, .lst upd_same ((td1.kp S2 k2).new h1) (.cons (.int r) .nil), flat_lst (flatL_cons (flat_int r) flatL_nil)⟩ (S2.upd h1) ((k1.trans k2).upd h1)
/-! ### _law_whole of anything -/
def spWhole : Sp := fun vs H Q _ => ∃ (N : Addr → Prop) (x : V) (d : PyData), vs = [x] ∧ Dq N H x d ∧ Q (.bl (wholeD d)) H
theorem ok_whole {f : Addr} {fd : FuncData} {k : Nat} (F : Fun K "_law_whole" "_law_whole" sWhole f fd) (mi : mg "isinstance" = none) (mint : mg "int" = none) (mbool : mg "bool" = none) : FnOk P w K mg base CX0 (k + 1) f fd ["thing"] spWhole := by
  refine F.ok scWhole (fun vs H Q E h => ?_) (fun cdv A outer s H vs Q E hr h => ?_)
  · obtain ⟨N, x, d, rfl, _⟩ := h
    rfl
  · obtain ⟨N, x, d, rfl, hx, q⟩ := h
    refine ⟨_, pss_one (ps_ret (pe_and (pe_callB call_isi (by rfl) mi (by decide +kernel) (pa_cons (pv 0) (pa_cons (pe_bltn (v := .ty "int") (by rfl) mint (by decide +kernel) rfl) pa_nil)))
      (pe_one (pe_not (pe_callB call_isi (by rfl) mi (by decide +kernel) (pa_cons (pv 0) (pa_cons (pe_bltn (v := .ty "bool") (by rfl) mbool (by decide +kernel) rfl) pa_nil))))))), ?_⟩
    have nd := dq_nodict hx
    rw [← whole_eq] at q
    refine ⟨x, rfl, _, _, _, _, intD d, rfl, .ty "int", dq_ty hx, kit_ty (kit_intD nd), intD d, rfl, ?_⟩
    cases hi : intD d with
    | false =>
      rw [hi] at q
      exact iteF q
    | true =>
      rw [hi] at q
      refine iteT ?_
      exact ⟨x, rfl, _, _, _, _, boolD d, rfl, .ty "bool", dq_ty hx, kit_ty (kit_boolD nd), boolD d, rfl, by rw [Bool.true_and] at q; exact q⟩
/-! ### turned -/
theorem ok_turned {f : Addr} {fd : FuncData} {k : Nat} (F : Fun K "turned" "turned" sTurned f fd) (mt : mg "tuple" = none) : FnOk P w K mg base CX0 (k + 1) f fd ["way", "filling"] spTurned := by
  refine F.ok scTurned (fun vs H Q E h => ?_) (fun cdv A outer s H vs Q E hr h => ?_)
  · obtain ⟨wv, f, c, s, xs, wy, p, rfl, _⟩ := h
    rfl
  · obtain ⟨wv, f, c, s', xs, wy, p, rfl, hW, ef, ec, s0, gp, hb, hl, q⟩ := h
    obtain ⟨zs, ew, hP⟩ := hW
    have hil : s'.toNat < wy.length := (List.getElem?_eq_some_iff.mp gp).1
    have hzl : s'.toNat < zs.length := by rw [hP.1]; exact hil
    obtain ⟨z, gz⟩ : ∃ z, zs[s'.toNat]? = some z := ⟨zs[s'.toNat]'hzl, List.getElem?_eq_getElem hzl⟩
    obtain ⟨a, b, ez, ea, eb⟩ := hP.2 _ _ _ gz gp
    refine ⟨_, (pss_cons (ps_asg (pv 1) (pg_tup rfl (pgs_cons (pg_name (i := 2) scTurned.nd rfl (Or.inl rfl)) (pgs_cons (pg_name (i := 3) scTurned.nd rfl (Or.inr rfl)) pgs_nil))))
      (pss_cons (ps_asg (pe_ix ix_tup (pv 0) (pv 2) (fun _ _ => rfl)) (pg_tup rfl (pgs_cons (pg_name (i := 4) scTurned.nd rfl (Or.inl rfl)) (pgs_cons (pg_name (i := 5) scTurned.nd rfl (Or.inl rfl)) pgs_nil))))
      (pss_one (ps_ret (pe_tup (pa_cons (pv 4) (pa_cons (pe_callTy call_tuple_of (by rfl) mt (by decide +kernel) (pa_cons (pe_lc (own := [("well", 6)]) (g := gName 6) (tt := tYes) (te := (tOp (rIxT K) (tVar 3) (tVar 6))) rfl scTurned.nd (pi_tup (pv 5)) (blkOk_by (N := ["way", "filling", "source", "things", "tray", "wells", "well"]) (sc := defScope sTurned) (by decide +kernel)) (fun _ _ _ _ _ => (pg_name (i := 6) scTurned.nd rfl (Or.inl rfl))) (fun _ _ _ _ _ => pts_nil) (fun _ _ _ _ _ => (pe_ix ix_tup (pv 3) (pv 6) (fun _ _ => rfl)))) pa_nil)) pa_nil))))))), ?_⟩
    refine ⟨.ref f, rfl, f, _, rfl, SqT.of ef, rfl, .int s', [.ref c], rfl, .ref c, [], rfl, rfl, ?_⟩
    refine ⟨.ref wv, rfl, .int s', rfl, wv, _, s', .ref a, rfl, rfl, SqT.of ew, at_of (j := s'.toNat) (by omega) (by rw [gz, ez]), ?_⟩
    refine ⟨a, _, rfl, SqT.of ea, rfl, .int p.1, [.ref b], rfl, .ref b, [], rfl, rfl, ?_⟩
    refine ⟨.int p.1, rfl, .ref b, rfl, b, rfl, ⟨_, SqT.of eb⟩, fun D hD => lc_tup (K := K) (a := b) (xs := p.2.map V.int) (fun i H1 => Same H H1 ∧ H1 D = some (.lst (pickV xs (p.2.take i)))) ⟨same_upd hD, upd_same⟩ (fun i H1 _ h => SqT.of (h.1 _ _ eb)) (fun i x H1 hx h => ?_) (fun H1 h => ?_)⟩
    · obtain ⟨y, hy, rfl⟩ := map_get hx
      obtain ⟨y0, y1⟩ := hb y (List.mem_of_getElem? hy)
      refine ⟨rfl, .ref c, rfl, .int y, rfl, c, xs, y, _, rfl, rfl, SqT.of (h.1 _ _ ec), pickV_at y0 y1, _, h.2, ?_, Same.of_lst h.1 hD, ?_⟩
      · rw [pickV_len, List.length_take]
        exact small1000 (by omega)
      · rw [upd_same, List.take_add_one, hy]
        unfold pickV
        rw [List.map_append]
        rfl
    · obtain ⟨s1, e1⟩ := h
      rw [List.length_map, List.take_length] at e1
      refine ⟨D, _, rfl, .inl ⟨SqL.of e1, fun u hu => ?_⟩⟩
      refine ⟨(show 2 ≤ sizeLine by decide), fun v hv => ?_⟩
      have s2 := same_upd (o := .tup (pickV xs p.2)) hu
      exact q v u _ ((s1.trans s2).trans (same_upd hv)) ((s1.trans s2).free hv) upd_same (same_upd hv _ _ upd_same)
end
section
variable {P : Program} {w : World} {K : PySem.W.Frag} {mg : Str → Option Value} {base : Heap}
/-! ### _law_alike -/
def spAlike : Sp := fun vs H Q _ => ∃ (N : Addr → Prop) (f c g D : Addr) (t : Int) (xs : List V), vs = [.ref f, .ref g] ∧ H f = some (.tup [.int t, .ref c]) ∧ H c = some (.tup xs) ∧ H g = some (.tup [.int t, .ref D]) ∧ H D = some (.lst xs) ∧ (∀ v ∈ xs, AnyF N 1 H v) ∧ ∀ H', Same H H' → Q (.bl true) H'
theorem ok_alike {f fW : Addr} {fd fdW : FuncData} {k : Nat} (F : Fun K "_law_alike" "_law_alike" sAlike f fd) (FW : Fun K "_law_whole" "_law_whole" sWhole fW fdW) (bW : Binds K fdW ["thing"] []) (gW : mg "_law_whole" = some (.ref fW)) (mi : mg "isinstance" = none) (mint : mg "int" = none) (mbool : mg "bool" = none) (mt : mg "tuple" = none) (mlen : mg "len" = none) (mz : mg "zip" = none) : FnOk P w K mg base CX0 (k + 1 + 1) f fd ["found", "due"] spAlike := by
  have GW : FnOk P w K mg base CX0 (k + 1) fW fdW ["thing"] spWhole := ok_whole FW mi mint mbool
  refine F.ok scAlike (fun vs H Q E h => ?_) (fun cdv A outer s H vs Q E hr h => ?_)
  · obtain ⟨N, f, c, g, D, t, xs, rfl, _⟩ := h
    rfl
  · obtain ⟨N, f, c, g, D, t, xs, rfl, ef, ec, eg, eD, hx, q⟩ := h
    refine ⟨_, (pss_cons (ps_if (PW.pt (pw_or (pt_not (pt_val (pe_callB call_isi (by rfl) mi (by decide +kernel) (pa_cons (pv 0) (pa_cons (pe_bltn (v := .ty "tuple") (by rfl) mt (by decide +kernel) rfl) pa_nil))))) (pw_or (pt_cmpR op_ne (pe_callB call_len_seq (by rfl) mlen PySem.boot_len (pa_cons (pv 0) pa_nil)) pe_int (nomark _)) (pw_or (pt_not (pt_val (pe_call GW hr (by rfl) gW FW.kp bW .nil pass0 (pa_cons (pe_ix ix_tup (pv 0) pe_int (fun _ _ => rfl)) pa_nil)))) (pw_or1 (pt_not (pt_val (pe_callB call_isi (by rfl) mi (by decide +kernel) (pa_cons (pe_ix ix_tup (pv 0) pe_int (fun _ _ => rfl)) (pa_cons (pe_bltn (v := .ty "tuple") (by rfl) mt (by decide +kernel) rfl) pa_nil))))))))))
      (pss_one (ps_ret pe_bl)) pss_nil)
      (pss_cons (ps_if (PW.pt (pw_or (pt_cmpR op_ne (pe_ix ix_tup (pv 0) pe_int (fun _ _ => rfl)) (pe_ix ix_tup (pv 1) pe_int (fun _ _ => rfl)) (nomark _)) (pw_or1 (pt_cmpR op_ne (pe_callB call_len_seq (by rfl) mlen PySem.boot_len (pa_cons (pe_ix ix_tup (pv 0) pe_int (fun _ _ => rfl)) pa_nil)) (pe_callB call_len_seq (by rfl) mlen PySem.boot_len (pa_cons (pe_ix ix_tup (pv 1) pe_int (fun _ _ => rfl)) pa_nil)) (nomark _)))))
      (pss_one (ps_ret pe_bl)) pss_nil)
      (pss_cons (ps_for PassesOwn.never rfl (pi_zipTL (by rfl) mz (pa_cons (pe_ix ix_tup (pv 0) pe_int (fun _ _ => rfl)) (pa_cons (pe_ix ix_tup (pv 1) pe_int (fun _ _ => rfl)) pa_nil))) (pg_tup rfl (pgs_cons (pg_name (i := 2) scAlike.nd rfl (Or.inl rfl)) (pgs_cons (pg_name (i := 3) scAlike.nd rfl (Or.inl rfl)) pgs_nil)))
      (pss_one (ps_if (PW.pt (pw_or (pt_cmpR (op_neD hr.units) (pv 2) (pv 3) (nomark _)) (pw_or1 (pt_cmpR op_ne (pe_callB call_isi (by rfl) mi (by decide +kernel) (pa_cons (pv 2) (pa_cons (pe_bltn (v := .ty "bool") (by rfl) mbool (by decide +kernel) rfl) pa_nil))) (pe_callB call_isi (by rfl) mi (by decide +kernel) (pa_cons (pv 3) (pa_cons (pe_bltn (v := .ty "bool") (by rfl) mbool (by decide +kernel) rfl) pa_nil))) (nomark _)))))
      (pss_one (ps_ret pe_bl)) pss_nil)))
      (pss_one (ps_ret pe_bl))))), ?_⟩
    refine ⟨.ref f, rfl, _, _, _, _, true, rfl, .ty "tuple", .base (.tup ef), kit_ty (by decide +kernel), _, rfl, iteF ?_⟩
    refine ⟨.ref f, rfl, f, _, rfl, .inr (SqT.of ef), rfl, _, rfl, iteNS rfl ?_⟩
    refine ⟨.ref f, rfl, f, _, 0, .int t, rfl, rfl, SqT.of ef, at0, N, .int t, .int t, rfl, .int t, _, rfl, iteF ?_⟩
    refine ⟨.ref f, rfl, f, _, 1, .ref c, rfl, rfl, SqT.of ef, at1, _, _, _, _, true, rfl, .ty "tuple", .base (.tup ec), kit_ty (by decide +kernel), _, rfl, iteF ?_⟩
    refine ⟨.ref f, rfl, f, _, 0, .int t, rfl, rfl, SqT.of ef, at0, .ref g, rfl, g, _, 0, .int t, rfl, rfl, SqT.of eg, at0, rfl, _, rfl, iteNS rfl ?_⟩
    refine ⟨.ref f, rfl, f, _, 1, .ref c, rfl, rfl, SqT.of ef, at1, c, xs, rfl, .inr (SqT.of ec), .ref g, rfl, g, _, 1, .ref D, rfl, rfl, SqT.of eg, at1, D, xs, rfl, .inl (SqL.of eD), rfl, _, rfl, iteNS rfl ?_⟩
    refine ⟨.ref f, rfl, f, _, 1, .ref c, rfl, rfl, SqT.of ef, at1, .ref g, rfl, g, _, 1, .ref D, rfl, rfl, SqT.of eg, at1, c, D, xs, xs, rfl, SqT.of ec, SqL.of eD, for_zipTL (K := K) (xs := xs) (ys := xs) rfl (fun i σ H1 => ∃ y z, σ = [some (.ref f), some (.ref g), y, z] ∧ Same H H1) ⟨_, _, rfl, same_refl⟩ (fun i σ H1 h => ?_) (fun i x y T σ H1 gx gy h hT => ?_) (fun σ H1 h => ?_)⟩
    · obtain ⟨_, _, _, s1⟩ := h
      exact ⟨SqT.of (s1 _ _ ec), SqL.of (s1 _ _ eD)⟩
    · obtain ⟨y1, y2, rfl, s1⟩ := h
      obtain rfl : x = y := Option.some.inj (gx.symm.trans gy)
      have s2 := s1.trans (same_upd (o := .tup [x, x]) hT)
      refine ⟨T, _, rfl, SqT.of upd_same, rfl, x, [x], rfl, x, [], rfl, rfl, ?_⟩
      generalize upd H1 T (.tup [x, x]) = H2 at s2 ⊢
      obtain ⟨d, hd, fl⟩ := (hx x (List.mem_of_getElem? gx)).keep (Same.keepD s2)
      have sh := fl.shaped (by decide)
      refine ⟨x, rfl, x, rfl, d, d, hd.dp, hd.dp, sh, sh, _, rfl, ?_⟩
      rw [hd.eqv_refl]
      refine iteF ?_
      have nd := dq_nodict hd
      refine ⟨x, rfl, _, _, _, _, boolD d, rfl, .ty "bool", dq_ty hd, kit_ty (kit_boolD nd), x, rfl, _, _, _, _, boolD d, rfl, .ty "bool", dq_ty hd, kit_ty (kit_boolD nd), rfl, _, rfl, iteNS rfl ?_⟩
      exact ⟨_, _, rfl, s2⟩
    · obtain ⟨_, _, _, s1⟩ := h
      exact q _ s1
end
section
variable {P : Program} {w : World} {K : PySem.W.Frag} {mg : Str → Option Value} {base : Heap}
def spLaw (K : PySem.W.Frag) : Sp := fun vs H Q _ => ∃ (a : Addr) (ns : List Int), vs = [.ref a] ∧ SqL K H a (ns.map V.int) ∧ ∀ H', Q (.bl true) H'
theorem ok_law {f fS fN fC fY fT fV fW fI fR : Addr} {fd fdS fdN fdC fdY fdT fdV fdW fdI fdR : FuncData}  (F : Fun K "law" "law" sLaw f fd)
    (FS : Fun K "_law_source" "_law_source" sSource fS fdS) (bS : Binds K fdS ["script"] []) (gS : mg "_law_source" = some (.ref fS))
    (FN : Fun K "_law_next" "_law_next" sNext fN fdN) (bN : Binds K fdN ["source", "many"] []) (gN : mg "_law_next" = some (.ref fN))
    (FC : Fun K "_law_crate" "_law_crate" sCrate fC fdC) (bC : Binds K fdC ["source"] []) (gC : mg "_law_crate" = some (.ref fC))
    (FY : Fun K "_law_way" "_law_way" sWay fY fdY) (bY : Binds K fdY ["source", "one", "other"] []) (gY : mg "_law_way" = some (.ref fY))
    (FT : Fun K "_law_two" "_law_two" sTwo fT fdT) (bT : Binds K fdT ["source"] []) (gT : mg "_law_two" = some (.ref fT))
    (FV : Fun K "_law_any" "_law_any" sAny fV fdV) (bV : Binds K fdV ["source"] []) (gV : mg "_law_any" = some (.ref fV))
    (FW : Fun K "_law_whole" "_law_whole" sWhole fW fdW) (bW : Binds K fdW ["thing"] []) (gW : mg "_law_whole" = some (.ref fW))
    (FI : Fun K "_law_alike" "_law_alike" sAlike fI fdI) (bI : Binds K fdI ["found", "due"] []) (gI : mg "_law_alike" = some (.ref fI))
    (FR : Fun K "turned" "turned" sTurned fR fdR) (bR : Binds K fdR ["way", "filling"] []) (gR : mg "turned" = some (.ref fR))
    (mabs : mg "abs" = none) (ml : mg "list" = none) (mt : mg "tuple" = none) (mr : mg "range" = none) (mi : mg "isinstance" = none) (mint : mg "int" = none) (mbool : mg "bool" = none) (mlen : mg "len" = none) (mz : mg "zip" = none) : FnOk P w K mg base CX0 4 f fd ["script"] (spLaw K) := by
  have GS : FnOk P w K mg base CX0 3 fS fdS ["script"] (spSource K) := ok_source FS ml
  have GN : FnOk P w K mg base CX0 3 fN fdN ["source", "many"] spNext := ok_next FN mabs
  have GT : FnOk P w K mg base CX0 3 fT fdT ["source"] spTwo := ok_two (k := 0) FT FN bN gN FC bC gC FY bY gY mabs mt mr mlen
  have GV : FnOk P w K mg base CX0 3 fV fdV ["source"] spAny := ok_any FV FN bN gN mabs
  have GI : FnOk P w K mg base CX0 3 fI fdI ["found", "due"] spAlike := ok_alike FI FW bW gW mi mint mbool mt mlen mz
  have GR : FnOk P w K mg base CX0 3 fR fdR ["way", "filling"] spTurned := ok_turned FR mt
  refine F.ok scLaw (fun vs H Q E h => ?_) (fun cdv A outer s H vs Q E hr h => ?_)
  · obtain ⟨a, ns, rfl, _⟩ := h
    rfl
  · obtain ⟨a, ns, rfl, hS, q⟩ := h
    refine ⟨_, (pss_cons (ps_set (i := 1) scLaw.nd rfl (Or.inr rfl) (pe_call GS hr (by rfl) gS FS.kp bS .nil pass0 (pa_cons (pv 0) pa_nil)))
      (pss_cons (ps_asg (pe_call GT hr (by rfl) gT FT.kp bT .nil pass0 (pa_cons (pv 1) pa_nil)) (pg_tup rfl (pgs_cons (pg_name (i := 2) scLaw.nd rfl (Or.inl rfl)) (pgs_cons (pg_name (i := 3) scLaw.nd rfl (Or.inl rfl)) (pgs_cons (pg_name (i := 4) scLaw.nd rfl (Or.inl rfl)) pgs_nil)))))
      (pss_cons (ps_for PassesOwn.never rfl (pi_range1 rfl mr (pa_cons (pe_op op_mul pe_int (pe_callTy call_int1 (by rfl) mint (by decide +kernel) (pa_cons (pe_cmpR (op_neD hr.units) (pv 2) (pe_tup pa_nil) (nomark _)) pa_nil))) pa_nil)) (pg_name (i := 5) scLaw.nd rfl (Or.inl rfl))
      (pss_cons (ps_set (i := 6) scLaw.nd rfl (Or.inl rfl) (pe_call GN hr (by rfl) gN FN.kp bN .nil pass0 (pa_cons (pv 1) (pa_cons (pe_callB call_len_seq (by rfl) mlen PySem.boot_len (pa_cons (pv 2) pa_nil)) pa_nil))))
      (pss_cons (ps_setLc (i := 7) (own := [("well", 8)]) (g := gName 8) (tt := tYes) rfl scLaw.nd rfl rfl (sw_true rfl rfl rfl (by decide +kernel)) (pi_range1 rfl mr (pa_cons (pe_ix ix_tup (pv 2) (pv 6) (fun _ _ => rfl)) pa_nil)) (blkOk_by (N := ["script", "source", "one", "other", "way", "turn", "tray", "things", "well", "filling", "due", "found"]) (sc := defScope sLaw) (by decide +kernel)) (fun _ _ _ _ _ => (pg_name (i := 8) scLaw.nd rfl (Or.inl rfl))) (fun _ _ _ _ _ => pts_nil) (fun _ _ _ _ _ => (pe_call GV hr (by rfl) gV FV.kp bV .nil pass0 (pa_cons (pv 1) pa_nil))))
      (pss_cons (ps_set (i := 9) scLaw.nd rfl (Or.inl rfl) (pe_tup (pa_cons (pv 6) (pa_cons (pe_callTy call_tuple_of (by rfl) mt (by decide +kernel) (pa_cons (pv 7) pa_nil)) pa_nil))))
      (pss_cons (ps_set (i := 10) scLaw.nd rfl (Or.inl rfl) (pe_lst pa_nil))
      (pss_cons (ps_for PassesOwn.never rfl (pi_tup (pe_ix ix_tup (pe_ix ix_tup (pv 4) (pv 6) (fun _ _ => rfl)) pe_int (fun _ _ => rfl))) (pg_name (i := 8) scLaw.nd rfl (Or.inl rfl))
      (pss_one (ps_expr (pe_bm PySem.F.plainAttrs_list PySem.F.slot_list_append PySem.F.type_list_append mt_append (pv 10) (pa_cons (pe_ix ix_list (pv 7) (pv 8) (fun _ _ => rfl)) pa_nil)))))
      (pss_cons (ps_set (i := 11) scLaw.nd rfl (Or.inl rfl) (pe_call GR hr (by rfl) gR FR.kp bR .nil pass0 (pa_cons (pv 4) (pa_cons (pv 9) pa_nil))))
      (pss_one (ps_if (PW.pt (pw_or (pt_not (pt_val (pe_call GI hr (by rfl) gI FI.kp bI .nil pass0 (pa_cons (pv 11) (pa_cons (pe_tup (pa_cons (pe_ix ix_tup (pe_ix ix_tup (pv 4) (pv 6) (fun _ _ => rfl)) pe_int (fun _ _ => rfl)) (pa_cons (pv 10) pa_nil))) pa_nil))))) (pw_or1 (pt_cmpR (op_neD hr.units) (pv 9) (pe_tup (pa_cons (pv 6) (pa_cons (pe_callTy call_tuple_of (by rfl) mt (by decide +kernel) (pa_cons (pv 7) pa_nil)) pa_nil))) (nomark _)))))
      (pss_one (ps_ret pe_bl)) pss_nil)))))))))
      (pss_one (ps_ret pe_bl))))), ?_⟩
    refine ⟨.ref a, rfl, a, ns, rfl, hS, fun p l H1 _ _ _ S1 => ?_⟩
    refine ⟨.ref p, rfl, p, l, rfl, S1, fun t1 t2 a1 u ws us wy H5 wl ul hw hu ok1 e15 e25 W15 eu S5 k2 => ?_⟩
    refine ⟨u, _, rfl, SqT.of eu, rfl, _, _, rfl, _, _, rfl, _, _, rfl, rfl, ?_⟩
    refine ⟨.ref t1, rfl, Nat.zero_le _, fun E0 hE0 => ?_⟩
    have s6 := same_upd (o := .tup []) hE0
    have eE : (upd H5 E0 (.tup [])) E0 = some (.tup ([].map V.int)) := upd_same
    generalize upd H5 E0 (.tup []) = H6 at s6 eE ⊢
    refine ⟨_, _, dp_crate (s6 _ _ e15), dp_crate eE, shaped_crate _, shaped_crate _, ?_⟩
    rw [List.map_nil, eqv_ints0]
    refine .inr ⟨_, rfl, 4, _, rfl, rfl, .inl ⟨by decide, by decide⟩, ?_⟩
    have hn : 0 ≤ 4 * (if (!ws.isEmpty) = true then (1 : Int) else 0) ∧ 4 * (if (!ws.isEmpty) = true then (1 : Int) else 0) ≤ 4 ∧ (0 < 4 * (if (!ws.isEmpty) = true then (1 : Int) else 0) → ws ≠ []) := by
      cases ws with
      | nil => exact ⟨by decide, by decide, fun z => absurd z (by decide)⟩
      | cons x r =>
        show (0 : Int) ≤ 4 * 1 ∧ (4 : Int) * 1 ≤ 4 ∧ _
        exact ⟨by decide, by decide, fun _ z => by cases z⟩
    obtain ⟨n0, n1, n2⟩ := hn
    refine ⟨4 * (if (!ws.isEmpty) = true then (1 : Int) else 0), rfl, by omega, by omega, for_range (lo := 0) (n := (4 * (if (!ws.isEmpty) = true then (1 : Int) else 0)).toNat) (fun i σ H' => ∃ y5 y6 y7 y8 y9 y10 y11, σ = [some (.ref a), some (.ref p), some (.ref t1), some (.ref t2), some (.ref a1), y5, y6, y7, y8, y9, y10, y11] ∧ Sc p l H' ∧ KeepT H5 H') ⟨_, _, _, _, _, _, _, rfl, S5.same s6, .of_same s6⟩ (fun i σ H7 hi h => ?_) (fun σ H7 h => q _)⟩
    obtain ⟨y5, y6, y7, y8, y9, y10, y11, rfl, S7, kt7⟩ := h
    have hne := n2 (by omega)
    have hpos : 0 < ws.length := by cases ws with | nil => exact absurd rfl hne | cons x r => simp
    have e17 := kt7 _ _ e15
    refine ⟨.ref p, rfl, .ref t1, rfl, t1, _, rfl, .inr (SqT.of e17), p, l, ((ws.map V.int).length : Int), rfl, S7, by rw [List.length_map]; omega, lg (by rw [List.length_map]; omega) (by rw [List.length_map]; omega), fun r H8 r0 r1 S8 k8 => ?_⟩
    rw [List.length_map] at r1
    have kt8 := kt7.trans (k8.keepT S7)
    have e18 := kt8 _ _ e15
    have gx : ws[r.toNat]? = some ws[r.toNat] := List.getElem?_eq_getElem (by omega)
    have hx := hw _ (List.mem_of_getElem? gx)
    generalize ws[r.toNat] = x at gx hx
    refine ⟨.ref t1, rfl, .int r, rfl, t1, _, r, .int x, rfl, rfl, SqT.of e18, atW r0 gx, x, rfl, by omega, by omega, fun D hD => lc_range (lo := 0) (n := x.toNat) (fun j H9 => ∃ xs : List V, xs.length = j ∧ H9 D = some (.lst xs) ∧ (∀ v ∈ xs, AnyF (fun c => c = p ∨ c = l ∨ c = D) 1 H9 v) ∧ Sc p l H9 ∧ Kp p l H8 H9) ⟨[], rfl, upd_same, (fun v hv => by cases hv), S8.upd hD, (Kp.refl H8).upd hD⟩ (fun j H9 hj h9 => ?_) (fun H9 h9 => ?_)⟩
    · obtain ⟨xs, hxl, e9, ha, S9, k9⟩ := h9
      refine ⟨rfl, .ref p, rfl, p, l, (fun c => c = p ∨ c = l ∨ c = D), rfl, S9, .inl rfl, .inr (.inl rfl), told3 S9 e9, fun v HA av SA kA => ?_⟩
      have nD := S8.ne hD
      have eA : HA D = some (.lst xs) := kA.get nD e9
      have kd : KeepD (fun c => c = p ∨ c = l ∨ c = D) H9 HA := kA.keepD S9 (.inl rfl) (.inr (.inl rfl))
      have kd2 : KeepD (fun c => c = p ∨ c = l ∨ c = D) HA (upd HA D (.lst (xs ++ [v]))) := keepD_lst eA (.inr (.inr rfl))
      refine ⟨xs, eA, small1000 (by omega), xs ++ [v], by rw [List.length_append, hxl]; rfl, upd_same, fun y hy => ?_, SA.lst nD, (k9.trans kA).lst hD⟩
      rcases List.mem_append.mp hy with hy | hy
      · exact ((ha y hy).keep kd).keep kd2
      · rw [List.mem_singleton.mp hy]
        exact av.keep kd2
    obtain ⟨xs, hxl, e9, ha, S9, k9⟩ := h9
    have kt9 := kt8.trans (k9.keepT S8)
    have W19 := W15.keep kt9
    -- filling
    refine ⟨.int r, rfl, .ref D, rfl, D, xs, rfl, .inl ⟨SqL.of e9, fun U1 hU1 => ⟨(show 2 ≤ sizeLine by decide), fun U2 hU2 => ?_⟩⟩⟩
    have sC := (same_upd (o := .tup xs) hU1).trans (same_upd (o := .tup [.int r, .ref U1]) hU2)
    have eU2 : (upd (upd H9 U1 (.tup xs)) U2 (.tup [.int r, .ref U1])) U2 = some (.tup [.int r, .ref U1]) := upd_same
    have eU1 := same_upd (o := .tup [.int r, .ref U1]) hU2 _ _ (upd_same (H := H9) (a := U1) (o := .tup xs))
    generalize upd (upd H9 U1 (.tup xs)) U2 (.tup [.int r, .ref U1]) = HC at sC eU2 eU1 ⊢
    -- due = []
    refine ⟨Nat.zero_le _, fun B hB => ?_⟩
    have sB := sC.trans (same_upd (o := .lst []) hB)
    have eB : (upd HC B (.lst [])) B = some (.lst []) := upd_same
    have eU2' := same_upd (o := .lst []) hB _ _ eU2
    have eU1' := same_upd (o := .lst []) hB _ _ eU1
    have fB : H9 B = none := sC.free hB
    generalize upd HC B (.lst []) = HB at sB eB eU2' eU1' ⊢
    -- way[tray]
    obtain ⟨z1, ez1, hP1⟩ := id W19
    have hwr : r.toNat < wy.length := by rw [ok1.1]; omega
    have gq : wy[r.toNat]? = some wy[r.toNat] := List.getElem?_eq_getElem hwr
    generalize wy[r.toNat] = qp at gq
    have fq := ok1.2 _ _ _ gq gx
    have hz1 : r.toNat < z1.length := by rw [hP1.1]; exact hwr
    obtain ⟨v1, gv1⟩ : ∃ v, z1[r.toNat]? = some v := ⟨z1[r.toNat]'hz1, List.getElem?_eq_getElem hz1⟩
    obtain ⟨pa, pb, rfl, ea, eb⟩ := hP1.2 _ _ _ gv1 gq
    have hxl' : (xs.length : Int) = x := by omega
    have bq : Below (xs.length : Int) qp.2 := by rw [hxl']; exact fq.2.2.2
    have hql : qp.2.length ≤ 900 := by have := hu _ (List.mem_of_getElem? fq.2.2.1); omega
    have nB : ∀ {b o}, H9 b = some o → b ≠ B := fun e z => by
      rw [z, fB] at e
      cases e
    refine ⟨.ref a1, rfl, .int r, rfl, a1, _, r, .ref pa, rfl, rfl, SqT.of (sB _ _ ez1), at_of (j := r.toNat) (by omega) gv1, pa, _, 1, .ref pb, rfl, rfl, SqT.of (sB _ _ ea), at1, pb, rfl, ⟨_, SqT.of (sB _ _ eb)⟩, for_tup (K := K) (xs := qp.2.map V.int) (fun j σ HE => ∃ y8, σ = [some (.ref a), some (.ref p), some (.ref t1), some (.ref t2), some (.ref a1), some (.int (0 + (i : Int))), some (.int r), some (.ref D), y8, some (.ref U2), some (.ref B), y11] ∧ HE B = some (.lst (pickV xs (qp.2.take j))) ∧ ∀ b o, b ≠ B → HB b = some o → HE b = some o) ⟨_, rfl, eB, fun b o _ e => e⟩ (fun j σ HE _ h => ?_) (fun j v σ HE hvj h => ?_) (fun σ HE h => ?_)⟩
    · obtain ⟨_, _, _, kE⟩ := h
      exact SqT.of (kE _ _ (nB eb) (sB _ _ eb))
    · obtain ⟨_, rfl, eE', kE⟩ := h
      obtain ⟨y, hy, rfl⟩ := map_get hvj
      obtain ⟨c0, c1⟩ := bq y (List.mem_of_getElem? hy)
      have n9 : D ≠ B := nB e9
      refine ⟨.ref B, rfl, .inl ⟨rfl, _, SqL.of eE'⟩, .ref D, rfl, .int y, rfl, D, xs, y, _, rfl, rfl, SqL.of (kE _ _ n9 (sB _ _ e9)), pickV_at c0 c1, B, _, _, rfl, rfl, eE', ?_, ?_⟩
      · rw [pickV_len, List.length_take]
        exact small1000 (by omega)
      · refine ⟨_, rfl, ?_, fun b o n e => ?_⟩
        · rw [upd_same, List.take_add_one, hy]
          unfold pickV
          rw [List.map_append]
          rfl
        · rw [upd_ne n]
          exact kE b o n e
    · obtain ⟨y8', rfl, eE', kE⟩ := h
      rw [List.length_map, List.take_length] at eE'
      have kH : ∀ {b o}, H9 b = some o → HE b = some o := fun e => kE _ _ (nB e) (sB _ _ e)
      have nU2 : U2 ≠ B := fun z => by
        rw [z, eB] at eU2'
        cases eU2'
      have nU1 : U1 ≠ B := fun z => by
        rw [z, eB] at eU1'
        cases eU1'
      have gU2 := kE _ _ nU2 eU2'
      have gU1 := kE _ _ nU1 eU1'
      have s9E : Same H9 HE := fun b o e => kH e
      -- found
      refine ⟨.ref a1, rfl, .ref U2, rfl, a1, U2, U1, r, xs, wy, qp, rfl, W19.keep (.of_same s9E), gU2, gU1, r0, gq, bq, hql, fun u1 v2 HF sF _ eu ev => ?_⟩
      have s9F := s9E.trans sF
      refine ⟨.ref u1, rfl, .ref a1, rfl, .int r, rfl, a1, _, r, .ref pa, rfl, rfl, SqT.of (s9F _ _ ez1), at_of (j := r.toNat) (by omega) gv1, pa, _, 0, .int qp.1, rfl, rfl, SqT.of (s9F _ _ ea), at0, .ref B, rfl, (show 2 ≤ sizeLine by decide), fun T1 hT1 => ?_⟩
      have sG := same_upd (o := .tup [.int qp.1, .ref B]) hT1
      have eT : (upd HF T1 (.tup [.int qp.1, .ref B])) T1 = some (.tup [.int qp.1, .ref B]) := upd_same
      generalize upd HF T1 (.tup [.int qp.1, .ref B]) = HG at sG eT ⊢
      have s9G := s9F.trans sG
      refine ⟨_, u1, v2, T1, B, qp.1, pickV xs qp.2, rfl, sG _ _ eu, sG _ _ ev, eT, (sF.trans sG) _ _ eE', fun v hv => (ha v (pickV_mem bq hv)).keep (Same.keepD s9G), fun HI sI => ?_⟩
      refine ⟨true, rfl, iteF ?_⟩
      have s9I := s9G.trans sI
      refine ⟨.ref U2, rfl, .int r, rfl, .ref D, rfl, D, xs, rfl, .inl ⟨SqL.of (s9I _ _ e9), fun U3 hU3 => ⟨(show 2 ≤ sizeLine by decide), fun U4 hU4 => ?_⟩⟩⟩
      have sK := (same_upd (o := .tup xs) hU3).trans (same_upd (o := .tup [.int r, .ref U3]) hU4)
      have eU4 : (upd (upd HI U3 (.tup xs)) U4 (.tup [.int r, .ref U3])) U4 = some (.tup [.int r, .ref U3]) := upd_same
      have eU3 := same_upd (o := .tup [.int r, .ref U3]) hU4 _ _ (upd_same (H := HI) (a := U3) (o := .tup xs))
      generalize upd (upd HI U3 (.tup xs)) U4 (.tup [.int r, .ref U3]) = HK at sK eU4 eU3 ⊢
      have sEK := ((sF.trans sG).trans sI).trans sK
      have s9K := s9I.trans sK
      obtain ⟨d, dp1, dp2, sh, re⟩ := fill_same (K := K) (sEK _ _ gU2) (sEK _ _ gU1) eU4 eU3 (fun v hv => (ha v hv).keep (Same.keepD s9K))
      refine ⟨d, d, dp1, dp2, sh, sh, _, rfl, ?_⟩
      rw [re]
      refine iteF ?_
      exact ⟨_, _, _, _, _, _, _, rfl, S9.same s9K, kt9.trans (.of_same s9K)⟩
end
theorem all_mk {l : PySem.W.OpenLaw} {w : World} {K : PySem.W.Frag} {h : Heap} {mg : Str → Option Value} {fa f1 f2 f3 f4 f5 f6 f7 f8 f9 f10 : Addr} (X : K.In h) (G : h.Ns mainGlobals mg) (hfa : mg "law" = some (.ref fa))
    {od1 an1 od2 an2 od3 an3 od4 an4 od5 an5 od6 an6 od7 an7 od8 an8 od9 an9 od10 an10 : Option Addr} {sl1 sl2 sl3 sl4 sl5 sl6 sl7 sl8 sl9 sl10 : Array (Option Value)} {oc1 kV1 dc1 pm1 cd1 ct1 oc2 kV2 dc2 pm2 cd2 ct2 oc3 kV3 dc3 pm3 cd3 ct3 oc4 kV4 dc4 pm4 cd4 ct4 oc5 kV5 dc5 pm5 cd5 ct5 oc6 kV6 dc6 pm6 cd6 ct6 oc7 kV7 dc7 pm7 cd7 ct7 oc8 kV8 dc8 pm8 cd8 ct8 oc9 kV9 dc9 pm9 cd9 ct9 oc10 kV10 dc10 pm10 cd10 ct10 : Value}
    (a1 : PySem.W.nsIn K mainGlobals "_law_source" = some (some (.ref f1))) (l1 : K.lookup f1 = some ⟨oc1, od1, .func (PySem.W.fnOf "_law_source" "_law_source" (defArgs sSource) (defBody sSource) (defScope sSource) .none kV1 dc1 pm1 an1 cd1 ct1), sl1⟩) (c1 : PySem.W.codeIn K cd1 "_law_source" = true) (k1 : PySem.W.keepIn K (.ref f1) = true)
    (a2 : PySem.W.nsIn K mainGlobals "_law_next" = some (some (.ref f2))) (l2 : K.lookup f2 = some ⟨oc2, od2, .func (PySem.W.fnOf "_law_next" "_law_next" (defArgs sNext) (defBody sNext) (defScope sNext) .none kV2 dc2 pm2 an2 cd2 ct2), sl2⟩) (c2 : PySem.W.codeIn K cd2 "_law_next" = true) (k2 : PySem.W.keepIn K (.ref f2) = true)
    (a3 : PySem.W.nsIn K mainGlobals "_law_crate" = some (some (.ref f3))) (l3 : K.lookup f3 = some ⟨oc3, od3, .func (PySem.W.fnOf "_law_crate" "_law_crate" (defArgs sCrate) (defBody sCrate) (defScope sCrate) .none kV3 dc3 pm3 an3 cd3 ct3), sl3⟩) (c3 : PySem.W.codeIn K cd3 "_law_crate" = true) (k3 : PySem.W.keepIn K (.ref f3) = true)
    (a4 : PySem.W.nsIn K mainGlobals "_law_way" = some (some (.ref f4))) (l4 : K.lookup f4 = some ⟨oc4, od4, .func (PySem.W.fnOf "_law_way" "_law_way" (defArgs sWay) (defBody sWay) (defScope sWay) .none kV4 dc4 pm4 an4 cd4 ct4), sl4⟩) (c4 : PySem.W.codeIn K cd4 "_law_way" = true) (k4 : PySem.W.keepIn K (.ref f4) = true)
    (a5 : PySem.W.nsIn K mainGlobals "_law_two" = some (some (.ref f5))) (l5 : K.lookup f5 = some ⟨oc5, od5, .func (PySem.W.fnOf "_law_two" "_law_two" (defArgs sTwo) (defBody sTwo) (defScope sTwo) .none kV5 dc5 pm5 an5 cd5 ct5), sl5⟩) (c5 : PySem.W.codeIn K cd5 "_law_two" = true) (k5 : PySem.W.keepIn K (.ref f5) = true)
    (a6 : PySem.W.nsIn K mainGlobals "_law_any" = some (some (.ref f6))) (l6 : K.lookup f6 = some ⟨oc6, od6, .func (PySem.W.fnOf "_law_any" "_law_any" (defArgs sAny) (defBody sAny) (defScope sAny) .none kV6 dc6 pm6 an6 cd6 ct6), sl6⟩) (c6 : PySem.W.codeIn K cd6 "_law_any" = true) (k6 : PySem.W.keepIn K (.ref f6) = true)
    (a7 : PySem.W.nsIn K mainGlobals "_law_whole" = some (some (.ref f7))) (l7 : K.lookup f7 = some ⟨oc7, od7, .func (PySem.W.fnOf "_law_whole" "_law_whole" (defArgs sWhole) (defBody sWhole) (defScope sWhole) .none kV7 dc7 pm7 an7 cd7 ct7), sl7⟩) (c7 : PySem.W.codeIn K cd7 "_law_whole" = true) (k7 : PySem.W.keepIn K (.ref f7) = true)
    (a8 : PySem.W.nsIn K mainGlobals "_law_alike" = some (some (.ref f8))) (l8 : K.lookup f8 = some ⟨oc8, od8, .func (PySem.W.fnOf "_law_alike" "_law_alike" (defArgs sAlike) (defBody sAlike) (defScope sAlike) .none kV8 dc8 pm8 an8 cd8 ct8), sl8⟩) (c8 : PySem.W.codeIn K cd8 "_law_alike" = true) (k8 : PySem.W.keepIn K (.ref f8) = true)
    (a9 : PySem.W.nsIn K mainGlobals "turned" = some (some (.ref f9))) (l9 : K.lookup f9 = some ⟨oc9, od9, .func (PySem.W.fnOf "turned" "turned" (defArgs sTurned) (defBody sTurned) (defScope sTurned) .none kV9 dc9 pm9 an9 cd9 ct9), sl9⟩) (c9 : PySem.W.codeIn K cd9 "turned" = true) (k9 : PySem.W.keepIn K (.ref f9) = true)
    (a10 : PySem.W.nsIn K mainGlobals "law" = some (some (.ref f10))) (l10 : K.lookup f10 = some ⟨oc10, od10, .func (PySem.W.fnOf "law" "law" (defArgs sLaw) (defBody sLaw) (defScope sLaw) .none kV10 dc10 pm10 an10 cd10 ct10), sl10⟩) (c10 : PySem.W.codeIn K cd10 "law" = true) (k10 : PySem.W.keepIn K (.ref f10) = true)
    (z1 : PySem.W.nsIn K mainGlobals "abs" = some none)
    (z2 : PySem.W.nsIn K mainGlobals "list" = some none)
    (z3 : PySem.W.nsIn K mainGlobals "tuple" = some none)
    (z4 : PySem.W.nsIn K mainGlobals "range" = some none)
    (z5 : PySem.W.nsIn K mainGlobals "isinstance" = some none)
    (z6 : PySem.W.nsIn K mainGlobals "int" = some none)
    (z7 : PySem.W.nsIn K mainGlobals "bool" = some none)
    (z8 : PySem.W.nsIn K mainGlobals "len" = some none)
    (z9 : PySem.W.nsIn K mainGlobals "zip" = some none)
    : ∃ fd : FuncData, (∀ (s : Shared) (v : Value), BindsTo s fd ⟨[v], []⟩ [("script", v)]) ∧ ∀ base : Heap, K.In base → base.Ns mainGlobals mg → FnOk l.prog w K mg base CX0 4 fa fd ["script"] (spLaw K) := by
  have e := hfa.symm.trans (PySem.W.mg_of X G a10)
  cases e
  have F1 := fun_mk (st := sSource) l1 c1 k1
  have F2 := fun_mk (st := sNext) l2 c2 k2
  have F3 := fun_mk (st := sCrate) l3 c3 k3
  have F4 := fun_mk (st := sWay) l4 c4 k4
  have F5 := fun_mk (st := sTwo) l5 c5 k5
  have F6 := fun_mk (st := sAny) l6 c6 k6
  have F7 := fun_mk (st := sWhole) l7 c7 k7
  have F8 := fun_mk (st := sAlike) l8 c8 k8
  have F9 := fun_mk (st := sTurned) l9 c9 k9
  have F10 := fun_mk (st := sLaw) l10 c10 k10
  have b1 := F1.binds (ps := ["script"]) fun _ _ _ _ _ _ us hl => match us, hl with | [_], _ => rfl
  have b2 := F2.binds (ps := ["source", "many"]) fun _ _ _ _ _ _ us hl => match us, hl with | [_, _], _ => rfl
  have b3 := F3.binds (ps := ["source"]) fun _ _ _ _ _ _ us hl => match us, hl with | [_], _ => rfl
  have b4 := F4.binds (ps := ["source", "one", "other"]) fun _ _ _ _ _ _ us hl => match us, hl with | [_, _, _], _ => rfl
  have b5 := F5.binds (ps := ["source"]) fun _ _ _ _ _ _ us hl => match us, hl with | [_], _ => rfl
  have b6 := F6.binds (ps := ["source"]) fun _ _ _ _ _ _ us hl => match us, hl with | [_], _ => rfl
  have b7 := F7.binds (ps := ["thing"]) fun _ _ _ _ _ _ us hl => match us, hl with | [_], _ => rfl
  have b8 := F8.binds (ps := ["found", "due"]) fun _ _ _ _ _ _ us hl => match us, hl with | [_, _], _ => rfl
  have b9 := F9.binds (ps := ["way", "filling"]) fun _ _ _ _ _ _ us hl => match us, hl with | [_, _], _ => rfl
  exact ⟨PySem.W.fnOf "law" "law" (defArgs sLaw) (defBody sLaw) (defScope sLaw) .none kV10 dc10 pm10 an10 cd10 ct10, fun s v => .of_eq rfl, fun base _ _ => ok_law (F := F10) (FS := F1) (bS := b1) (gS := PySem.W.mg_of X G a1) (FN := F2) (bN := b2) (gN := PySem.W.mg_of X G a2) (FC := F3) (bC := b3) (gC := PySem.W.mg_of X G a3) (FY := F4) (bY := b4) (gY := PySem.W.mg_of X G a4) (FT := F5) (bT := b5) (gT := PySem.W.mg_of X G a5) (FV := F6) (bV := b6) (gV := PySem.W.mg_of X G a6) (FW := F7) (bW := b7) (gW := PySem.W.mg_of X G a7) (FI := F8) (bI := b8) (gI := PySem.W.mg_of X G a8) (FR := F9) (bR := b9) (gR := PySem.W.mg_of X G a9) (mabs := PySem.W.mg_none_of X G z1) (ml := PySem.W.mg_none_of X G z2) (mt := PySem.W.mg_none_of X G z3) (mr := PySem.W.mg_none_of X G z4) (mi := PySem.W.mg_none_of X G z5) (mint := PySem.W.mg_none_of X G z6) (mbool := PySem.W.mg_none_of X G z7) (mlen := PySem.W.mg_none_of X G z8) (mz := PySem.W.mg_none_of X G z9) ⟩
end Tm
open PySem PySem.W PyProof.Rows
set_option maxHeartbeats 0 in
theorem PySem.Challenge.cw_traymap_k07_fillings_turned_holds : PySem.Challenge.rw_traymap_k07_fillings_turned.Holds := by
  w_on; o_law; k_head; (case hw => w_witness2)
  k_fill
  refine L2.walk_of (l := PySem.Challenge.rw_traymap_k07_fillings_turned) (n := 63) (k := 4) (x := "script") (CX := fun _ => L2.CX0) (sp := fun w => Tm.spLaw _) rfl (by decide) rfl ⟨rfl, by decide, by decide⟩ (fun w h Y => PySem.W.kIn_of Y) ?F (fun _ _ a ns hl _ hS => ⟨a, ns, rfl, hS, fun _ => rfl⟩) (fun _ _ _ _ _ h => h)
  case F =>
    intro w mg fa h KX G hmg
    refine' Tm.all_mk KX G hmg ?a1 ?l1 ?c1 ?k1 ?a2 ?l2 ?c2 ?k2 ?a3 ?l3 ?c3 ?k3 ?a4 ?l4 ?c4 ?k4 ?a5 ?l5 ?c5 ?k5 ?a6 ?l6 ?c6 ?k6 ?a7 ?l7 ?c7 ?k7 ?a8 ?l8 ?c8 ?k8 ?a9 ?l9 ?c9 ?k9 ?a10 ?l10 ?c10 ?k10 ?z1 ?z2 ?z3 ?z4 ?z5 ?z6 ?z7 ?z8 ?z9
    (case a1 => k_is); (case l1 => k_is); (case c1 => k_is); (case k1 => k_is); (case a2 => k_is); (case l2 => k_is); (case c2 => k_is); (case k2 => k_is); (case a3 => k_is); (case l3 => k_is); (case c3 => k_is); (case k3 => k_is); (case a4 => k_is); (case l4 => k_is); (case c4 => k_is); (case k4 => k_is); (case a5 => k_is); (case l5 => k_is); (case c5 => k_is); (case k5 => k_is); (case a6 => k_is); (case l6 => k_is); (case c6 => k_is); (case k6 => k_is); (case a7 => k_is); (case l7 => k_is); (case c7 => k_is); (case k7 => k_is); (case a8 => k_is); (case l8 => k_is); (case c8 => k_is); (case k8 => k_is); (case a9 => k_is); (case l9 => k_is); (case c9 => k_is); (case k9 => k_is); (case a10 => k_is); (case l10 => k_is); (case c10 => k_is); (case k10 => k_is); (case z1 => k_is); (case z2 => k_is); (case z3 => k_is); (case z4 => k_is); (case z5 => k_is); (case z6 => k_is); (case z7 => k_is); (case z8 => k_is); (case z9 => k_is)
